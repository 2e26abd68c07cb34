/- LZ: the best token of a text of one byte is that byte. -/
import Derived.Test.YtlhgkemiakekoaaLzJ
import Derived.Sort.CutIn
import Derived.RegionIn
namespace Go.Proofs.Ytlhgkemiakekoaa
set_option linter.unusedVariables false
open Go.RowKit Go.Shelf
attribute [local go_sem] Oper.semAt_some
namespace Lz
/-- The boxes of the search: where the chains lie, the place, how many tries, the answer. -/
structure Bo (w W : World) (G : Nat) (s : ByteArray) (mv sv : Value) : Prop where
  r3 : W.heap[w.heap.size]? = some (.cells #[.pointer (some ⟨G, 0, none⟩)] 43 (0, 0))
  r4 : W.heap[w.heap.size + 1]? = some (.cells #[.int .i64 0] 3 (0, 0))
  r6 : W.heap[w.heap.size + 1 + 1 + 1]? = some (.cells #[.int .u8 0, .int .i64 0, .int .i64 0] 24 (0, 0))
  rG : W.heap[G]? = some (.cells #[.string s, mv, sv] 52 (0, 0))
theorem row_b {W W' : World} {g : Nat} {o : Obj} (h : W.heap[g]? = some o) (hb : Below W.heap.size W W') : W'.heap[g]? = some o := (hb.block g (Array.getElem?_eq_some_iff.1 h).1).trans h
theorem Bo.step {w W W' : World} {G : Nat} {s : ByteArray} {mv sv : Value} (h : Bo w W G s mv sv) (hb : Below W.heap.size W W') : Bo w W' G s mv sv := ⟨row_b h.r3 hb, row_b h.r4 hb, row_b h.r6 hb, row_b h.rG hb⟩
theorem bo_new {w : World} {G : Nat} {s : ByteArray} {mv sv : Value} (hG : w.heap[G]? = some (.cells #[.string s, mv, sv] 52 (0, 0))) :
    Bo w ((((w.alloc (.cells #[.pointer (some ⟨G, 0, none⟩)] 43)).alloc (.cells #[.int .i64 0] 3)).alloc (.cells #[.int .i64 512] 3)).alloc (.cells #[.int .u8 0, .int .i64 0, .int .i64 0] 24)) G s mv sv := by
  have n0 := heap_alloc_new w (.cells #[.pointer (some ⟨G, 0, none⟩)] 43)
  have n1 := heap_alloc_new (w.alloc (.cells #[.pointer (some ⟨G, 0, none⟩)] 43)) (.cells #[.int .i64 0] 3)
  have n3 := heap_alloc_new (((w.alloc (.cells #[.pointer (some ⟨G, 0, none⟩)] 43)).alloc (.cells #[.int .i64 0] 3)).alloc (.cells #[.int .i64 512] 3)) (.cells #[.int .u8 0, .int .i64 0, .int .i64 0] 24)
  simp only [World.size_alloc] at n0 n1 n3
  have st : ∀ (V : World) (o : Obj), Below V.heap.size V (V.alloc o) := fun V o => (Below.refl _ _).alloc (Nat.le_refl _) o
  exact ⟨row_b (row_b (row_b n0 (st _ _)) (st _ _)) (st _ _), row_b (row_b n1 (st _ _)) (st _ _), n3, row_b (row_b (row_b (row_b hG (st _ _)) (st _ _)) (st _ _)) (st _ _)⟩
theorem cell1 {W : World} {g : Nat} {v : Value} {T : TypeId} (h : W.heap[g]? = some (.cells #[v] T (0, 0))) : W.cell? ⟨g, 0, none⟩ = some v := by rw [cell_of_row _ _ _ _ _ _ h]; rfl
theorem cell30 {W : World} {g : Nat} {u v x : Value} {T : TypeId} (h : W.heap[g]? = some (.cells #[u, v, x] T (0, 0))) : W.cell? ⟨g, 0, none⟩ = some u := by rw [cell_of_row _ _ _ _ _ _ h]; rfl
theorem row_kept {W W' : World} {row : Option Nat} {k : Nat} {cs : Array Value} {T : TypeId} (h : W.heap[k]? = some (.cells cs T (0, 0))) (hg : W.grownBy W' row) (hr : ∀ r, row = some r → ∃ o : Obj, W.heap[r]? = some o ∧ o.isCells = false) : W'.heap[k]? = some (.cells cs T (0, 0)) := by
  rw [hg.block k (Array.getElem?_eq_some_iff.1 h).1 ?_]
  · exact h
  · intro e
    obtain ⟨o, h1, h2⟩ := hr k e.symm
    rw [h] at h1
    cases h1
    cases h2
theorem row3 {w : World} {g : Nat} {T : TypeId} {x y z : Value} (h : w.heap[g]? = some (.cells #[x, y, z] T (0, 0))) (a b c : Value) :
    ((((w.setCell ⟨g, 0, none⟩ a).setCell ⟨g, 1, none⟩ b).setCell ⟨g, 2, none⟩ c).drew).heap[g]? = some (.cells #[a, b, c] T (0, 0)) := by
  have h1 := heap_setCell_same w g 0 _ T a h
  have h2 := heap_setCell_same _ g 1 _ T b h1
  exact heap_setCell_same _ g 2 _ T c h2
theorem results_cell_tmp {P : Program} {fn : Func} {p q : Tmp} {ty : TypeId} (h : fn.results = #[.cell p ty, .tmp q]) (tmps : Array Value) (w : World) (g : Nat) (t : TypeId) (cs : Array Value) (fr : Nat × Nat) (d : TypeDesc)
    (hp : tmps.getD p undef = .pointer (some ⟨g, 0, none⟩)) (v : Value) (hq : tmps.getD q undef = v) (hg : w.heap[g]? = some (.cells cs t fr))
    (hu : P.underlying ty = some d) (hd : (match d with | .struct _ | .array _ _ => true | _ => false) = true) (hi : (P.info? ty).map (·.size) = some cs.size) :
    (results fn tmps).run P w = .ok (.tuple #[.agg cs, v]) w := by
  have hp' : tmps[p]?.getD undef = .pointer (some ⟨g, 0, none⟩) := by simpa using hp
  have hq' : tmps[q]?.getD undef = v := by simpa using hq
  simp [results, h, hp', hq', asAddr, run_loadVar_row w g t ty cs fr d hg hu hd hi]
theorem iter1_stops (n : Nat) (hn : 1 ≤ n) (B2 B3 G : Nat) (s : ByteArray) (hs : s.size < 3) (n₀ : Nat) (w : World) (h2 : w.cell? ⟨B2, 0, none⟩ = some (.pointer (some ⟨G, 0, none⟩))) (h3 : w.cell? ⟨B3, 0, none⟩ = some (.int .i64 0)) (hG : w.cell? ⟨G, 0, none⟩ = some (.string s)) :
    SeqStopsK Fence.wide n Try.prog 26 #[.pointer (some ⟨B2, 0, none⟩), .pointer (some ⟨B3, 0, none⟩)] (fun x : Nat => #[Value.int .i64 (x : Int)]) (Below n₀) (fun ys => ys = []) (fun _ => False) 0 w := fun l J Jx W hW hJa hJx hY h0 =>
  iter1 n hn l B2 B3 G s hs J Jx W (fun W' hb => hJa [] W W' none h0 (grown_of_below hb) (fun r e => by cases e))
    ((hW.cell (p := ⟨B2, 0, none⟩) (World.block_lt_of_cell? _ _ h2)).trans h2) ((hW.cell (p := ⟨B3, 0, none⟩) (World.block_lt_of_cell? _ _ h3)).trans h3) ((hW.cell (p := ⟨G, 0, none⟩) (World.block_lt_of_cell? _ _ hG)).trans hG)
set_option maxRecDepth 100000 in
set_option maxHeartbeats 4000000 in
theorem best1 (G : Nat) (s : ByteArray) (hs : s.size = 1) (mv sv : Value) (w : World) (hG : w.heap[G]? = some (.cells #[.string s, mv, sv] 52 (0, 0))) :
    Calls Try.prog 21 #[.pointer (some ⟨G, 0, none⟩), .int .i64 0, .int .i64 512] w fun e w' => e = .returned (.tuple #[tokV (byteT s 0 : Nat) 0 0, .int .i64 1]) ∧ Below w.heap.size w w' := by
  refine (callsIn_wide (n := 8)).1 ?_
  refine callsIn_of_wp_marks Try.func21 rfl trivial ?_ rfl
  simp only [Try.ntmps21, List.size_toArray, List.length_cons, List.length_nil, Nat.reduceAdd, Nat.reduceSub, Array.replicate_succ, Array.replicate_zero, List.push_toArray, List.append_toArray, List.nil_append, List.cons_append]
  have HBT := hid (byteT_eq s 0 (by omega))
  have hs' : (s.size : Int) = 1 := by omega
  have hz : (0 : Int) < (s.size : Int) := by omega
  have hGl := (Array.getElem?_eq_some_iff.1 hG).1
  have HO := hid (bo_new hG)
  have HB := hid (show Below w.heap.size w ((((w.alloc (.cells #[.pointer (some ⟨G, 0, none⟩)] 43)).alloc (.cells #[.int .i64 0] 3)).alloc (.cells #[.int .i64 512] 3)).alloc (.cells #[.int .u8 0, .int .i64 0, .int .i64 0] 24)) from
    ((((Below.refl _ w).alloc (Nat.le_refl _) _).alloc (by simp) _).alloc (by simp; omega) _).alloc (by simp; omega) _)
  have HZ := hid (show ((((w.alloc (.cells #[.pointer (some ⟨G, 0, none⟩)] 43)).alloc (.cells #[.int .i64 0] 3)).alloc (.cells #[.int .i64 512] 3)).alloc (.cells #[.int .u8 0, .int .i64 0, .int .i64 0] 24)).heap.size = w.heap.size + 4 by simp)
  gi_upto_region 1 with fail
  generalize (((w.alloc (.cells #[.pointer (some ⟨G, 0, none⟩)] 43)).alloc (.cells #[.int .i64 0] 3)).alloc (.cells #[.int .i64 512] 3)).alloc (.cells #[.int .u8 0, .int .i64 0, .int .i64 0] 24) = W0 at HO HB HZ ⊢
  gi_cut [8, 9] from 47 (fun p q wx => ∃ g8 g9 : Nat, p = .pointer (some ⟨g8, 0, none⟩) ∧ q = .pointer (some ⟨g9, 0, none⟩) ∧ wx.heap[g8]? = some (.cells #[.int .u8 (byteT s 0 : Nat), .int .i64 0, .int .i64 0] 24 (0, 0)) ∧ wx.heap[g9]? = some (.cells #[.int .i64 1] 3 (0, 0)) ∧ w.heap.size + 4 ≤ g8 ∧ w.heap.size + 4 ≤ g9 ∧ Below W0.heap.size W0 wx)
  case first =>
    have d3 := cell1 HO.out.r3
    have d4 := cell1 HO.out.r4
    have dG := cell30 HO.out.rG
    have hbt := HBT.out
    have hZ := HZ.out
    have hGz : G < w.heap.size + 4 := by omega
    gi_region
    all_goals gi_wp2
    all_goals gi_meet
    · have h1 := heap_alloc2_old W0 (.cells #[.int .u8 (byteT s 0 : Nat), .int .i64 0, .int .i64 0] 24) (.cells #[.int .i64 1] 3)
      have h2 := heap_alloc2_new W0 (.cells #[.int .u8 (byteT s 0 : Nat), .int .i64 0, .int .i64 0] 24) (.cells #[.int .i64 1] 3)
      rw [HZ.out] at h1 h2
      exact ⟨_, _, rfl, rfl, h1, h2, by omega, by omega, (((Below.refl _ _).alloc (Nat.le_refl _) _).alloc (by simp) _).drew⟩
    · have h1 := heap_alloc2_old W0 (.cells #[.int .i64 1] 3) (.cells #[.int .u8 (byteT s 0 : Nat), .int .i64 0, .int .i64 0] 24)
      have h2 := heap_alloc2_new W0 (.cells #[.int .i64 1] 3) (.cells #[.int .u8 (byteT s 0 : Nat), .int .i64 0, .int .i64 0] 24)
      rw [HZ.out] at h1 h2
      exact ⟨_, _, rfl, rfl, h2, h1, by omega, by omega, (((Below.refl _ _).alloc (Nat.le_refl _) _).alloc (by simp) _).drew⟩
  case rest =>
    obtain ⟨g8, g9, rfl, rfl, h8, h9, l8, l9, hb⟩ := hcut
    have H8 := hid h8
    have H9 := hid h9
    have HO1 := hid (HO.out.step hb)
    have HB1 := hid (HB.out.trans (hb.mono HB.out.size))
    clear h8 h9 hb HO HB HZ
    have d3 := cell1 HO1.out.r3
    have d4 := cell1 HO1.out.r4
    gi_wp2
    refine ⟨trivial, (callsIn_wide.2 (backs_ G 0 wc)).mono ?_⟩
    rintro e w1 ⟨rfl, rfl⟩
    gi_wp2
    have ha : Below wc.heap.size wc ((wc.alloc (.cells #[.pointer (some ⟨G, 0, none⟩)] 43)).alloc (.cells #[.int .i64 0] 3)) := ((Below.refl _ _).alloc (Nat.le_refl _) _).alloc (by simp) _
    have HO2 := hid (HO1.out.step ha)
    have HB2 := hid (HB1.out.trans (ha.mono HB1.out.size))
    have H82 := hid (row_b H8.out ha)
    have H92 := hid (row_b H9.out ha)
    have e2 := heap_alloc2_old wc (.cells #[.pointer (some ⟨G, 0, none⟩)] 43) (.cells #[.int .i64 0] 3)
    have e3 := heap_alloc2_new wc (.cells #[.pointer (some ⟨G, 0, none⟩)] 43) (.cells #[.int .i64 0] 3)
    have E2 := hid (cell1 e2)
    have E3 := hid (cell1 e3)
    have hwz := HB1.out.size
    clear e2 e3 ha d3 d4
    generalize (wc.alloc (.cells #[.pointer (some ⟨G, 0, none⟩)] 43)).alloc (.cells #[.int .i64 0] 3) = W1 at HO2 HB2 H82 H92 E2 E3 ⊢
    refine wpIn_rangeFunc_ownF rfl (by omega) (gf := 26) (lb := #[.pointer (some ⟨wc.heap.size, 0, none⟩), .pointer (some ⟨wc.heap.size + 1, 0, none⟩)]) rfl trivial (enters_of Try.func26 (by kernel_rfl) rfl)
      (iter1_stops (8 - 1) (by omega) wc.heap.size (wc.heap.size + 1) G s (by omega) w.heap.size W1 E2.out E3.out (cell30 HO2.out.rG)) belowK_t (belowK_b HB2.out.size) (Below.refl _ _) (fun _ => rfl)
      (fun pre W => (Bo w W G s mv sv ∧ W.heap[g8]? = some (.cells #[.int .u8 (byteT s 0 : Nat), .int .i64 0, .int .i64 0] 24 (0, 0)) ∧ W.heap[g9]? = some (.cells #[.int .i64 1] 3 (0, 0))) ∧ Below w.heap.size w W)
      (fun c pre W => False)
      (OwnFrom.and (Own.from (fun s' A B row hs hg hr => ⟨⟨row_kept hs.1.r3 hg hr, row_kept hs.1.r4 hg hr, row_kept hs.1.r6 hg hr, row_kept hs.1.rG hg hr⟩, row_kept hs.2.1 hg hr, row_kept hs.2.2 hg hr⟩) _) (ownFrom_below (Nat.le_refl _) HB2.out.size))
      (fun c => fun s' A B row hs hg hr => hs)
      ⟨⟨HO2.out, H82.out, H92.out⟩, HB2.out⟩ ?a1 ?assign ?body ?done ?stop
    case assign =>
      intro l x W K hK
      gi_wp2
      exact hK
    case body =>
      intro l pre x W _ h
      exact absurd h (Nat.not_lt_zero _)
    case stop =>
      intro D c pre W hD h
      exact absurd h (fun h => h)
    case done =>
      rintro D ys W hD rfl ⟨⟨hBo, r8, r9⟩, hB⟩ hK
      have d8a := cell30 r8
      have d8b : W.cell? ⟨g8, 1, none⟩ = some (.int .i64 0) := by rw [cell_of_row _ _ _ _ _ _ r8]; rfl
      have d8c : W.cell? ⟨g8, 2, none⟩ = some (.int .i64 0) := by rw [cell_of_row _ _ _ _ _ _ r8]; rfl
      have d9 := cell1 r9
      have d6a := cell30 hBo.r6
      have d6b : W.cell? ⟨w.heap.size + 1 + 1 + 1, 1, none⟩ = some (.int .i64 0) := by rw [cell_of_row _ _ _ _ _ _ hBo.r6]; rfl
      have d6c : W.cell? ⟨w.heap.size + 1 + 1 + 1, 2, none⟩ = some (.int .i64 0) := by rw [cell_of_row _ _ _ _ _ _ hBo.r6]; rfl
      have f6a := frozen_of_row W (w.heap.size + 1 + 1 + 1) 0 _ _ hBo.r6
      have f6b := frozen_of_row W (w.heap.size + 1 + 1 + 1) 1 _ _ hBo.r6
      have f6c := frozen_of_row W (w.heap.size + 1 + 1 + 1) 2 _ _ hBo.r6
      have R6 := hid hBo.r6
      have HBW := hid hB
      have HKW := hid hK
      have n1 : ¬ g9 = w.heap.size + 1 + 1 + 1 := by omega
      have n2 : ¬ w.heap.size + 1 + 1 + 1 = g9 := by omega
      have n3 : ¬ g8 = w.heap.size + 1 + 1 + 1 := by omega
      have n4 : ¬ w.heap.size + 1 + 1 + 1 = g8 := by omega
      clear r8 r9 hBo hB hK
      gi_upto_region 9 with fail
      gi_region
      all_goals gi_wp2
      have hl6 := (Array.getElem?_eq_some_iff.1 HO2.out.r6).1
      have R7 := row3 R6.out (.int .u8 (byteT s 0 : Nat)) (.int .i64 0) (.int .i64 0)
      have HKD : ((((W.setCell ⟨w.heap.size + 1 + 1 + 1, 0, none⟩ (.int .u8 (byteT s 0 : Nat))).setCell ⟨w.heap.size + 1 + 1 + 1, 1, none⟩ (.int .i64 0)).setCell ⟨w.heap.size + 1 + 1 + 1, 2, none⟩ (.int .i64 0)).drew).heap[D]? = some (.deferred (some [])) := by
        show (((W.setCell ⟨w.heap.size + 1 + 1 + 1, 0, none⟩ (.int .u8 (byteT s 0 : Nat))).setCell ⟨w.heap.size + 1 + 1 + 1, 1, none⟩ (.int .i64 0)).setCell ⟨w.heap.size + 1 + 1 + 1, 2, none⟩ (.int .i64 0)).heap[D]? = _
        rw [Below.heap_setCell _ _ _ _ (by show D ≠ w.heap.size + 1 + 1 + 1; omega), Below.heap_setCell _ _ _ _ (by show D ≠ w.heap.size + 1 + 1 + 1; omega), Below.heap_setCell _ _ _ _ (by show D ≠ w.heap.size + 1 + 1 + 1; omega)]
        exact HKW.out
      have HLB : Below w.heap.size w ((((W.setCell ⟨w.heap.size + 1 + 1 + 1, 0, none⟩ (.int .u8 (byteT s 0 : Nat))).setCell ⟨w.heap.size + 1 + 1 + 1, 1, none⟩ (.int .i64 0)).setCell ⟨w.heap.size + 1 + 1 + 1, 2, none⟩ (.int .i64 0)).drew) :=
        (((HBW.out.setCell (p := ⟨w.heap.size + 1 + 1 + 1, 0, none⟩) (by show w.heap.size ≤ w.heap.size + 1 + 1 + 1; omega) _).setCell (p := ⟨w.heap.size + 1 + 1 + 1, 1, none⟩) (by show w.heap.size ≤ w.heap.size + 1 + 1 + 1; omega) _).setCell (p := ⟨w.heap.size + 1 + 1 + 1, 2, none⟩) (by show w.heap.size ≤ w.heap.size + 1 + 1 + 1; omega) _).drew
      refine ⟨by simp, .inl ⟨_, _, rfl, run_takeDeferred HKD, ?_⟩⟩
      exact ⟨_, results_cell_tmp (fn := Try.f21) Try.results21 _ _ (w.heap.size + 1 + 1 + 1) 24 #[.int .u8 (byteT s 0 : Nat), .int .i64 0, .int .i64 0] (0, 0) _ rfl (.int .i64 1) rfl
        (row_kept R7 (grownBy_putObj' _ D (.deferred none)) (fun r e => by cases e; exact ⟨_, HKD, rfl⟩)) Try.underlying24 rfl size24, rfl, HLB.trans (belowK_b (w := w) (Nat.le_refl _) _ D _ _ (by omega) HKD rfl rfl)⟩
end Lz
end Go.Proofs.Ytlhgkemiakekoaa
