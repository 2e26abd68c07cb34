/- CommitCuts: a text's sectors, in a row. -/
import Derived.Test.YthgjijjalfhhcaaDoorCoF
namespace Go.Proofs.YthgjijjalfhhcaaDoor
set_option linter.unusedVariables false
open Go.RowKit Go.Shelf
attribute [local go_sem] Oper.semAt_some
namespace Com
open Fld

theorem info9 : (Tryd.prog.info? 9).map (fun i => (i.zero, i.size, i.bytes)) = some (some (.string ⟨#[]⟩), 1, 16) := by kernel_rfl
/-- Behind 'out = append(out, x)': the box, the row, what lay below, and a text's box between. -/
theorem appended {W w1 : World} {n₀ n₁ B Bn : Nat} {v v' : Value} {k m : Nat} {xs ys : List Value} {tmp : Obj} (hv : Boxed W B 34 v) (hrow : W.ownsRow n₁ 9 1 v k xs) (hn₀ : n₀ ≤ W.heap.size) (hB : n₀ ≤ B) (h01 : n₀ ≤ n₁) (hBn : Bn < n₁) (hBl : Bn < W.heap.size) (hne : Bn ≠ B)
    (hown' : w1.ownsRow n₁ 9 1 v' m ys) (hgrow : (W.alloc tmp).grownBy w1 v.ownBlock) :
    Boxed w1 B 34 v ∧ Boxed (w1.setCell ⟨B, 0, none⟩ v') B 34 v' ∧ (w1.setCell ⟨B, 0, none⟩ v').ownsRow n₁ 9 1 v' m ys ∧ KeepsOthers W (w1.setCell ⟨B, 0, none⟩ v') ∧ Below n₀ W (w1.setCell ⟨B, 0, none⟩ v') ∧ Stays Bn W (w1.setCell ⟨B, 0, none⟩ v') := by
  have hv1 : Boxed w1 B 34 v := (hv.alloc tmp).kept hgrow (hv.not_row (by decide) hrow)
  have hlow : ∀ j, v.ownBlock = some j → n₁ ≤ j := fun j e => (hrow.lt j e).1
  refine ⟨hv1, hv1.set v', hown'.kept (grownBy_setCell' w1 B v') (.inr (hv1.not_row (by decide) hown').symm), ?_, ?_, ?_⟩
  · refine ((KeepsOthers.alloc W tmp).trans (KeepsOthers.of_grownBy hgrow fun j o ej hj => ?_)).trans (KeepsOthers.setCell _ _ _)
    rcases (hrow.alloc tmp).2 with ⟨rfl, _⟩ | ⟨g, cap, cur, rfl, _, hgb, _⟩
    · simp [Value.ownBlock] at ej
    · obtain rfl : g = j := by simpa [Value.ownBlock] using ej
      rw [hgb] at hj; cases hj; rfl
  · exact (((Below.refl n₀ W).alloc hn₀ tmp).grown hgrow (by simp; omega) fun j ej => Nat.le_trans h01 (hlow j ej)).setCell (p := ⟨B, 0, none⟩) hB v'
  · intro s e
    refine (heap_setCell_other w1 ⟨B, 0, none⟩ Bn v' hne).trans ?_
    refine (hgrow.block Bn (by simp; omega) (fun e2 => ?_)).trans ((Below.heap_alloc W tmp Bn hBl).trans e)
    have := hlow Bn e2.symm
    omega

set_option maxRecDepth 100000 in
set_option maxHeartbeats 2000000 in
theorem cut (s : ByteArray) (q : Nat) (w : World) (hs : s.size ≤ 1000000) (hp : (padB s).size = 512 * q) (hq : q ≤ 1000) :
    Calls Tryd.prog 14 #[.string s] w fun e w' => ∃ v n₁, e = .returned v ∧ w'.ownsRow n₁ 9 1 v q ((parts (padB s) q).map Value.string) ∧ Below w.heap.size w w' := by
  refine (callsIn_wide (n := 8)).1 ?_
  refine callsIn_of_wp_marks Tryd.func14 rfl trivial ?_ rfl
  simp only [Tryd.ntmps14, List.size_toArray, List.length_cons, List.length_nil, Nat.reduceAdd, Nat.reduceSub, Array.replicate_succ, Array.replicate_zero, List.push_toArray, List.append_toArray, List.nil_append, List.cons_append]
  have HPAD := hid (fun W => pad s W hs)
  have HP := hid hp
  clear hs hp
  generalize padB s = p at HPAD HP ⊢
  have HBX := hid (Boxed.new w 34 (.slice none 0 0))
  have HBL := hid ((Below.refl _ w).alloc (Nat.le_refl _) (.cells #[.slice none 0 0] 34))
  gi_wp2
  refine ⟨trivial, (callsIn_wide.2 (HPAD.out _)).mono ?_⟩
  rintro e w1 ⟨rfl, b1⟩
  have HB1 := hid (HBL.out.trans (b1.mono HBL.out.size))
  have HX1 := hid (show Boxed w1 w.heap.size 34 (.slice none 0 0) from row_step HBX.out b1)
  clear b1 HBX HBL HPAD
  gi_wp2
  refine ⟨trivial, (callsIn_wide.2 (sectors_ p _)).mono ?_⟩
  rintro e w2 ⟨rfl, rfl⟩
  gi_wp2
  have HX2 := hid (HX1.out.alloc (.cells #[.string p] 9))
  have HB2 := hid (HB1.out.alloc HB1.out.size (.cells #[.string p] 9))
  have HT2 := hid (heap_alloc_new w1 (.cells #[.string p] 9))
  have HZ2 := hid (show (w1.alloc (.cells #[.string p] 9)).heap.size = w1.heap.size + 1 by simp)
  have HLT := hid HX1.out.lt
  generalize w1.alloc (.cells #[.string p] 9) = W2 at HX2 HB2 HT2 HZ2 ⊢
  generalize w1.heap.size = Bn at HT2 HZ2 HLT ⊢
  clear HX1 HB1
  obtain ⟨i0, hi, hz0, hz1, hz2⟩ := info_parts info9
  apply wpIn_rangeFunc_ownF rfl (by omega) (gf := 49) (lb := #[.pointer (some ⟨Bn, 0, none⟩)]) rfl trivial (enters_of Tryd.func49 (by kernel_rfl) rfl)
    (secs_stops Fence.wide (8 - 1) trivial rfl (by omega) Bn p q HP.out hq W2 HT2.out) stays_t (fun W l o o' => stays_b W l o o') (Below.refl _ _) (fun _ => rfl)
    (fun pre W => ((∃ v, Boxed W w.heap.size 34 v ∧ W.ownsRow (Bn + 1) 9 1 v pre.length (pre.map Value.string) ∧ True)) ∧ (Below w.heap.size w W ∧ Bn < W.heap.size))
    (fun _ _ _ => False)
    (OwnFrom.and (Own.from (holdsRow_own (Bn + 1) w.heap.size 34 9 1 (fun pre : List ByteArray => pre.length) (fun pre => pre.map Value.string) (fun _ _ => True)) _) (OwnFrom.and (ownFrom_below (Nat.le_refl _) (by have := HB2.out.size; omega)) (fun _ _ _ _ hs hg _ => Nat.lt_of_lt_of_le hs hg.size)))
    (fun _ _ _ _ _ hs _ _ => hs)
    ⟨⟨_, HX2.out, World.ownsRow_nil _ _ _ _, trivial⟩, HB2.out, by have := HZ2.out; omega⟩
  case hassign =>
    intro l x W K hK
    gi_wp2
    exact hK
  case hbody =>
    rintro l pre x W ⟨⟨v, hv, hrow, _⟩, hB, hsz⟩ hlen
    have hc := hv.cell
    have HV := hid hv
    have HR := hid hrow
    have HB := hid hB
    clear hv hrow hB
    gi_wp2_with (gi_at_builtin; refine wpListIn_append_own _ rfl _ _ 34 rfl (Bn + 1) 9 i0 (.string ⟨#[]⟩) 1 16 Tryd.underlying34 hi hz0 hz1 hz2 rfl (by decide) _ _ _ rfl (HR.out.alloc _) ⟨W.heap.size, 0, none⟩ 1 1 [.string x] rfl rfl (cell_one_new _ _ _) (by simp [Value.oneCell']) (by unfold maxLen; omega) (by omega) (by simp; omega) ?_; intro v' w1 hown' hgrow _; obtain ⟨g', cap', rfl⟩ := ownsRow_succ hown'; obtain ⟨hv1, hv2, hr2, hk2, hb2, hs2⟩ := appended (n₀ := w.heap.size) (Bn := Bn) HV.out HR.out HB.out.size (Nat.le_refl _) (by have := HLT.out; omega) (Nat.lt_succ_self _) hsz (by have := HLT.out; omega) hown' hgrow; have hc1 := hv1.cell; have hf1 := hv1.frozen)
    exact ⟨hk2, hs2, ⟨_, hv2, by simpa using hr2, trivial⟩, HB.out.trans hb2, Nat.lt_of_lt_of_le hsz hb2.size⟩
  case hdone =>
    rintro D ys W hD rfl ⟨⟨v, hv, hrow, _⟩, hB, hsz⟩ hK
    rw [parts_length] at hrow
    have hc := hv.cell
    have HR := hid hrow
    have HB := hid hB
    have HK := hid hK
    clear hv hrow hB hK
    gi_wp2
    refine ⟨by simp, .inl ⟨_, _, rfl, run_takeDeferred HK.out, ?_⟩⟩
    exact ⟨_, results_tmp rfl _ _ _, v, Bn + 1, rfl, ownsRow_putObj HR.out _ HK.out rfl, HB.out.trans (belowK_b (w := w) (Nat.le_refl _) W D _ _ (by have := HB2.out.size; omega) HK.out rfl rfl)⟩
  case hstop =>
    rintro D c pre W _ _ h _
    exact h.elim
end Com
end Go.Proofs.YthgjijjalfhhcaaDoor
