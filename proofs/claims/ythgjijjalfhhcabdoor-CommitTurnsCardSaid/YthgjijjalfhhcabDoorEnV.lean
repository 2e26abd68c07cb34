/- WALKS over writers of fields. -/
import Derived.Test.YthgjijjalfhhcabDoorEnR
import Derived.Lib.AppendStr
import Derived.OwnWalk
namespace Go.Proofs.YthgjijjalfhhcabDoor
set_option linter.unusedVariables false
open Go.RowKit
open Go.Proofs.Num
namespace Fld

/-- Bytes as cells. -/
def byteCells (l : List UInt8) : List Value := l.map fun b => Value.int .u8 (b.toNat : Int)
theorem byteCells_length (l : List UInt8) : (byteCells l).length = l.length := by unfold byteCells; simp
theorem byteCells_append (l m : List UInt8) : byteCells (l ++ m) = byteCells l ++ byteCells m := by unfold byteCells; simp
theorem byteCells_str (s : ByteArray) : Lib.strCells s = byteCells s.data.toList := rfl

/-- A writer that has so many bytes. -/
def Wr (w : World) (G : Nat) (l : List UInt8) : Prop := ∃ v, w.heap[G]? = some (.cells #[v] 46 (0, 0)) ∧ w.ownsRow (G + 1) 5 1 v l.length (byteCells l)

/-- Texts that lie in a row of their own. -/
def Lie (w : World) (L : Nat) (ss : List ByteArray) : Prop := w.heap[L]? = some (.cells (ss.map Value.string).toArray 9 (0, 0))

theorem Wr.lt {w : World} {G : Nat} {l : List UInt8} (h : Wr w G l) : G < w.heap.size := by
  obtain ⟨v, h1, _⟩ := h
  exact (Array.getElem?_eq_some_iff.1 h1).1
theorem Lie.lt {w : World} {L : Nat} {ss : List ByteArray} (h : Lie w L ss) : L < w.heap.size := (Array.getElem?_eq_some_iff.1 h).1
theorem Lie.cell {w : World} {L : Nat} {ss : List ByteArray} (h : Lie w L ss) (i : Nat) (hi : i < ss.length) : w.cell? ⟨L, i, none⟩ = some (.string ss[i]) := by
  rw [cell_of_row w L i _ 9 (0, 0) h]; simp [hi]
theorem Lie.drew {w : World} {L : Nat} {ss : List ByteArray} (h : Lie w L ss) : Lie w.drew L ss := h
theorem Lie.alloc {w : World} {L : Nat} {ss : List ByteArray} (h : Lie w L ss) (o : Obj) : Lie (w.alloc o) L ss := (Below.heap_alloc w o L h.lt).trans h
theorem Wr.alloc {w : World} {G : Nat} {l : List UInt8} (h : Wr w G l) (o : Obj) : Wr (w.alloc o) G l := by
  have hl := h.lt
  obtain ⟨v, h1, h2⟩ := h
  exact ⟨v, (Below.heap_alloc w o G hl).trans h1, h2.alloc o⟩
theorem Wr.drew {w : World} {G : Nat} {l : List UInt8} (h : Wr w G l) : Wr w.drew G l := by
  obtain ⟨v, h1, h2⟩ := h
  exact ⟨v, h1, h2.drew⟩
theorem lie_new (w : World) (ss : List ByteArray) : Lie (w.alloc (.cells (ss.map Value.string).toArray 9)) w.heap.size ss := heap_alloc_new _ _

theorem info5 : (Tryd.prog.info? 5).map (fun i => (i.zero, i.size, i.bytes)) = some (some (.int .u8 0), 1, 1) := by kernel_rfl
theorem u130 : ∃ f, Tryd.prog.underlying 46 = some (.struct #[f]) := ⟨_, Tryd.underlying46⟩

/-- A value that owns a row is a slice. -/
theorem own_form {w : World} {base n : Nat} {v : Value} {xs : List Value} (h : w.ownsRow base 5 1 v n xs) : ∃ (A : Option Addr) (cap : Nat), v = .slice A n cap := by
  rcases h.2 with ⟨rfl, rfl⟩ | ⟨g, cap, _, rfl, _⟩
  · exact ⟨none, 0, rfl⟩
  · exact ⟨_, cap, rfl⟩

/-- What lies in blocks of other things stays as a row of bytes grows. -/
theorem grown_keeps {w w' : World} {base n k : Nat} {v : Value} {xs : List Value} {t : TypeId} {cs : Array Value} (ho : w.ownsRow base 5 1 v n xs) (hg : w.grownBy w' v.ownBlock) (hb : w.heap[k]? = some (.cells cs t (0, 0))) (ht : t ≠ 5) :
    w'.heap[k]? = some (.cells cs t (0, 0)) := by
  have hlt := (Array.getElem?_eq_some_iff.1 hb).1
  have hne : some k ≠ v.ownBlock := by
    intro e
    rcases ho.2 with ⟨rfl, rfl⟩ | ⟨g, cap, cur, rfl, _, hgc, _⟩
    · simp [Value.ownBlock] at e
    · simp only [Value.ownBlock, Option.some.injEq] at e
      subst e
      rw [hb] at hgc
      simp only [Option.some.injEq, Obj.cells.injEq] at hgc
      exact ht hgc.2.1
  rw [hg.block k hlt hne]
  exact hb

theorem cells_type {w : World} {k : Nat} {cs ds : Array Value} {t u : TypeId} (h : w.heap[k]? = some (.cells cs t (0, 0))) (g : w.heap[k]? = some (.cells ds u (0, 0))) : t = u := by
  rw [h] at g
  simp only [Option.some.injEq, Obj.cells.injEq] at g
  exact g.2.1

/-- The writer's cell is written behind an append. -/
theorem wr_next {w w1 : World} {G : Nat} {v v' : Value} {l m : List UInt8} (hv : w.heap[G]? = some (.cells #[v] 46 (0, 0))) (ho : w.ownsRow (G + 1) 5 1 v l.length (byteCells l)) (hg : w.grownBy w1 v.ownBlock)
    (ho1 : w1.ownsRow (G + 1) 5 1 v' (l.length + m.length) (byteCells l ++ byteCells m)) : Wr (w1.setCell ⟨G, 0, none⟩ v') G (l ++ m) := by
  have h1 := grown_keeps ho hg hv (by decide)
  refine ⟨v', heap_setCell_same w1 G 0 _ 46 v' h1, ?_⟩
  rw [List.length_append, byteCells_append]
  exact ownsRow_setCell_below ho1 (Nat.lt_succ_self _) v'

theorem wr_cell {w w1 : World} {G n : Nat} {v : Value} {xs : List Value} (hv : w.heap[G]? = some (.cells #[v] 46 (0, 0))) (ho : w.ownsRow (G + 1) 5 1 v n xs) (hg : w.grownBy w1 v.ownBlock) :
    w1.cell? ⟨G, 0, none⟩ = some v ∧ w1.frozen? ⟨G, 0, none⟩ = false := by
  have h1 := grown_keeps ho hg hv (by decide)
  exact ⟨by rw [cell_of_row _ _ _ _ _ _ h1]; rfl, frozen_of_row _ _ _ _ _ h1⟩

theorem lie_next {w w1 : World} {G L n : Nat} {v v' : Value} {xs : List Value} {ss : List ByteArray} (hv : w.heap[G]? = some (.cells #[v] 46 (0, 0))) (hl : Lie w L ss) (ho : w.ownsRow (G + 1) 5 1 v n xs) (hg : w.grownBy w1 v.ownBlock) :
    Lie (w1.setCell ⟨G, 0, none⟩ v') L ss := by
  have hne : L ≠ G := by
    intro e
    subst e
    have := cells_type hv hl
    exact absurd this (by decide)
  have h1 := grown_keeps ho hg hl (by decide)
  exact (heap_setCell_other w1 ⟨G, 0, none⟩ L v' hne).trans h1

theorem below_next {w w1 : World} {G n : Nat} {v v' : Value} {xs : List Value} {a : World} (hb : Below G a w) (ho : w.ownsRow (G + 1) 5 1 v n xs) (hg : w.grownBy w1 v.ownBlock) (hG : G < w.heap.size) : Below G a (w1.setCell ⟨G, 0, none⟩ v') :=
  (hb.grown hg (Nat.le_of_lt hG) (fun k hk => by have := (ho.lt k hk).1; omega)).setCell (Nat.le_refl _) v'

set_option maxRecDepth 100000 in
set_option maxHeartbeats 400000 in
theorem wtext (G L cap : Nat) (l : List UInt8) (ss : List ByteArray) (w : World) (hW : Wr w G l) (hL : Lie w L ss) (hsz : l.length + (ss.flatMap fun t => t.data.toList).length ≤ 140737488355328) (hn : ss.length ≤ 100) :
    Calls Tryd.prog 19 #[.pointer (some ⟨G, 0, none⟩), .slice (some ⟨L, 0, none⟩) ss.length cap] w fun e w' => e = .returned (.pointer (some ⟨G, 0, none⟩)) ∧ Wr w' G (l ++ ss.flatMap fun t => t.data.toList) ∧ Below G w w' ∧ (∀ L' ss', Lie w L' ss' → Lie w' L' ss') := by
  have HW := hid hW
  have HL := hid hL
  have HS := hid hsz
  clear hW hL hsz
  obtain ⟨i0, hi, hz0, hz1, hz2⟩ := info_parts info5
  have HI := hid hi
  clear hi
  go_enter Tryd.func19, Tryd.ntmps19
  go_wp2_with fail
  go_loopw [6, 11] (fun _ i wr => ∃ k : Nat, k ≤ ss.length ∧ i = .int .i64 k ∧ Wr wr G (l ++ (ss.take k).flatMap fun t => t.data.toList) ∧ Lie wr L ss ∧ Below G w wr ∧ (∀ L' ss', Lie w L' ss' → Lie wr L' ss')) (fun _ i _ => ss.length - (intOf i).toNat)
  case atStart => exact ⟨0, by omega, rfl, by simpa using HW.out, HL.out, Below.refl _ _, fun _ _ h => h⟩
  case round =>
    obtain ⟨k, hk, rfl, hw, hl, hb, hkeep⟩ := hrel
    have HKP := hid hkeep
    clear hkeep
    have HB := hid hb
    have HL2 := hid hl
    have HW2 := hid hw
    clear hb hl hw
    by_cases hlt : k < ss.length
    · have hc := HL2.out.cell k hlt
      obtain ⟨v, hv, hown⟩ := HW2.out
      have HV := hid hv
      have HO := hid hown
      have hcv : wr.cell? ⟨G, 0, none⟩ = some v := by rw [cell_of_row _ _ _ _ _ _ hv]; rfl
      have hfz : wr.frozen? ⟨G, 0, none⟩ = false := frozen_of_row _ _ _ _ _ hv
      have hG := (Array.getElem?_eq_some_iff.1 hv).1
      have HT := hid (show (l ++ (ss.take (k + 1)).flatMap fun t => t.data.toList) = (l ++ (ss.take k).flatMap fun t => t.data.toList) ++ ss[k].data.toList by
        rw [List.take_succ_eq_append_getElem hlt, List.flatMap_append, List.append_assoc]; simp)
      have HZ := hid (show (l ++ (ss.take k).flatMap fun t => t.data.toList).length + ss[k].size ≤ 140737488355328 by
        have h1 := HS.out
        have h2 := congrArg (fun m => (m.flatMap fun t : ByteArray => t.data.toList).length) (List.take_append_drop (k + 1) ss)
        simp only [List.flatMap_append, List.length_append] at h2
        have h3 := congrArg List.length HT.out
        simp only [List.length_append] at h3 ⊢
        have h4 : ss[k].data.toList.length = ss[k].size := by simp
        omega)
      generalize (l ++ (ss.take k).flatMap fun t => t.data.toList) = m at HO HT HZ HW2
      generalize ss[k] = t at hc HT HZ
      clear hv hown
      have HZ2 := hid (show m.length + t.size ≤ maxLen by have := HZ.out; unfold maxLen; omega)
      obtain ⟨A, c, rfl⟩ := own_form HO.out
      go_wp2_with (at_builtin; (refine Lib.wpList_append_own_string _ (by rfl) _ _ 28 9 (by rfl) (G + 1) 5 i0 und51 Tryd.underlying9 HI.out hz0 hz1 hz2 (.slice A m.length c) m.length (byteCells m) (by rfl) HO.out t (by rfl) HZ2.out HZ.out hG ?_); intro v' w1 hown1 hgrow1 hiff1; have HO1 := hid hown1; have HG1 := hid hgrow1; obtain ⟨A', c', rfl⟩ := own_form hown1; obtain ⟨hcv1, hfz1⟩ := wr_cell HV.out HO.out hgrow1; clear hown1 hgrow1 hiff1)
      go_roundw
      case rel => exact ⟨k + 1, by omega, by go_num, by rw [HT.out]; exact wr_next HV.out HO.out HG1.out (by rw [show t.data.toList.length = t.size by simp]; exact HO1.out), lie_next HV.out HL2.out HO.out HG1.out, below_next HB.out HO.out HG1.out hG, fun L' ss' h => lie_next HV.out (HKP.out L' ss' h) HO.out HG1.out⟩
      case measure => simp [intOf]; omega
    · go_wp2_with fail
      go_ret
      exact ⟨rfl, by have := HW2.out; rw [List.take_of_length_le (by omega)] at this; exact this, HB.out, HKP.out⟩
theorem Wr.below {w w' : World} {G : Nat} {l : List UInt8} (h : Wr w G l) (hb : Below w.heap.size w w') : Wr w' G l := by
  have hl := h.lt
  obtain ⟨v, h1, h2⟩ := h
  refine ⟨v, (hb.block G hl).trans h1, h2.1, ?_⟩
  rcases h2.2 with h0 | ⟨g, cap, cur, hv, hg, hgc, rest⟩
  · exact .inl h0
  · exact .inr ⟨g, cap, cur, hv, hg, (hb.block g (Array.getElem?_eq_some_iff.1 hgc).1).trans hgc, rest⟩

theorem wr_conv {w : World} {v : Value} {G : Nat} {l : List UInt8} (h : w.ownsRow (G + 1) 5 1 v l.length (byteCells l)) : (convert 28 9 v).run Tryd.prog w = .ok (.string ⟨l.toArray⟩) w := by
  rcases h.2 with ⟨rfl, hn⟩ | ⟨g, cap, cur, rfl, hb, hg, _, _, _, htk⟩
  · have : l = [] := List.eq_nil_of_length_eq_zero hn
    subst this
    rw [run_convert_bytes_string w 28 9 5 none 0 0 und51 Tryd.underlying5 Tryd.underlying9]
    simp [Conv.bytesToString]
    rfl
  · refine run_convert_bytes_back (P := Tryd.prog) w 28 9 5 ⟨g, 0, none⟩ cap l und51 Tryd.underlying5 Tryd.underlying9 ?_
    intro j hj
    have hadd : (⟨g, 0, none⟩ : Addr).add j = ⟨g, j, none⟩ := by unfold Addr.add; split <;> simp_all
    rw [hadd, cell_of_row w g j cur 5 (0, 0) hg]
    have h1 : (cur.toList.take (l.length * 1))[j]? = (byteCells l)[j]? := by rw [htk]
    rw [Nat.mul_one, List.getElem?_take_of_lt hj] at h1
    rw [← Array.getElem?_toList, h1]
    simp [byteCells, hj]

set_option maxRecDepth 100000 in
set_option maxHeartbeats 400000 in
theorem wbytes (G : Nat) (l : List UInt8) (w : World) (hW : Wr w G l) :
    Calls Tryd.prog 22 #[.pointer (some ⟨G, 0, none⟩)] w fun e w' => e = .returned (.string ⟨l.toArray⟩) ∧ w = w' := by
  obtain ⟨v, hv, hown⟩ := hW
  have hcv : w.cell? ⟨G, 0, none⟩ = some v := by rw [cell_of_row _ _ _ _ _ _ hv]; rfl
  have hconv := wr_conv hown
  obtain ⟨A, c, rfl⟩ := own_form hown
  clear hv hown
  go_enter Tryd.func22, Tryd.ntmps22
  go_wp2_with fail
  go_ret
  exact ⟨rfl, rfl⟩

set_option maxRecDepth 100000 in
set_option maxHeartbeats 400000 in
theorem wnum (G : Nat) (l : List UInt8) (n : Nat) (wide : Int) (w : World) (hW : Wr w G l) (h1 : n ≤ 18446744073709551615) (hw0 : -9223372036854775808 ≤ wide) (hw1 : wide ≤ 9223372036854775807) (hsz : l.length ≤ 140737488355320) :
    Calls Tryd.prog 21 #[.pointer (some ⟨G, 0, none⟩), .int .u64 (n : Int), .int .i64 wide] w fun e w' => e = .returned (.pointer (some ⟨G, 0, none⟩)) ∧ Wr w' G (l ++ putL n (wideN wide)) ∧ Below G w w' ∧ (∀ L' ss', Lie w L' ss' → Lie w' L' ss') := by
  have HW := hid hW
  have hG := hW.lt
  clear hW
  go_enter Tryd.func21, Tryd.ntmps21
  go_wp2_with fail
  refine (put n wide _ h1 hw0 hw1).mono ?_
  rintro e w1 ⟨rfl, hB1⟩
  have HW1 := hid (HW.out.below hB1)
  have HB1 := hid hB1
  clear hB1
  go_wp2_with fail
  refine (wtext G w1.heap.size 1 l [putB n (wideN wide)] _ (HW1.out.alloc _) (lie_new w1 [putB n (wideN wide)]) ?_ (by simp)).mono ?_
  · have := wide_le wide
    simp [putB, putL_length]
    omega
  rintro e w2 ⟨rfl, hw2, hb2, hk2⟩
  have HW2 := hid hw2
  have HB2 := hid hb2
  have HK2 := hid hk2
  clear hw2 hb2 hk2
  go_wp2_with fail
  go_ret
  refine ⟨rfl, by have := HW2.out; simpa [putB] using this, ((HB1.out.mono (Nat.le_of_lt hG)).alloc (by have := HB1.out.size; omega) _).trans HB2.out, ?_⟩
  intro L' ss' h
  exact HK2.out L' ss' (Lie.alloc ((HB1.out.block L' h.lt).trans h) _)

end Fld
end Go.Proofs.YthgjijjalfhhcabDoor
