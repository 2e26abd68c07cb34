/- WALKS: the codes of lengths. -/
import Derived.Test.YtlfohihmkfphhaaHufT
import Derived.Laws.OwnMore
namespace Go.Proofs.Ytlfohihmkfphhaa
set_option linter.unusedVariables false
open Go.RowKit
open Go.Proofs.Huf
namespace Huff

theorem und75 : Try.prog.underlying 75 = some (.slice 47) := by kernel_rfl
theorem info47 : (Try.prog.info? 47).map (fun i => (i.zero, i.size, i.bytes)) = some (some (.int .u32 0), 1, 4) := by kernel_rfl
theorem made_row (z : Value) (n : Nat) : madeCells #[z] n = rowV (fun _ => z) n := by
  apply rowV_ext (size_madeCells _ _)
  intro i hi
  rw [← Array.getElem?_toList, toList_madeCells_one]
  simp [hi]
theorem make_u32 (n : Nat) (hn : n ≤ 300) (w : World) : (Instr.makeSlice 75 (.int .i64 (n : Int)) (.int .i64 (n : Int))).run Try.prog w = .ok (.slice (some ⟨w.heap.size, 0, none⟩) n n) (w.alloc (.cells (rowV (fun _ => .int .u32 0) n) 47)) := by
  obtain ⟨i0, hi, hz0, hz1, hz2⟩ := info_parts info47
  have h := run_make (P := Try.prog) w 75 47 i0 (.int .u32 0) und75 hi hz0 .i64 .i64 n n (by omega) (Int.le_refl _) (by rw [hz2]; omega) (by omega)
  rw [hz1, Int.toNat_natCast, Nat.mul_one] at h
  rw [← made_row]
  exact h

/-- The next code of each length, behind the first j symbols. -/
def nxV (g : Nat → Nat) (N j : Nat) : Array Value := rowV (fun n => .int .u32 ((fT g N n + cT g j n : Nat) : Int)) 16
theorem nxV_start (g : Nat → Nat) (N : Nat) : nxV g N 0 = fV g N 16 := by
  unfold nxV fV
  apply rowV_congr
  intro i hi
  rw [if_pos hi]; rfl
theorem nxV_at (g : Nat → Nat) (N j n : Nat) (h : n < 16) : (nxV g N j)[n]? = some (.int .u32 ((fT g N n + cT g j n : Nat) : Int)) := rowV_at _ _ _ h
theorem nxV_none (g : Nat → Nat) (N j : Nat) (h : g j = 0) : nxV g N (j + 1) = nxV g N j := by
  apply rowV_congr
  intro i hi
  rw [cT_succ, if_neg (by omega)]; rfl
theorem nxV_more (g : Nat → Nat) (N j n : Nat) (h : g j = n) (hn : n ≠ 0) : (nxV g N j).setIfInBounds n (.int .u32 (((fT g N n + cT g j n : Nat) : Int) + 1)) = nxV g N (j + 1) := by
  unfold nxV
  rw [rowV_set]
  apply rowV_congr
  intro i hi
  simp only [cT_succ]
  by_cases e : i = n
  · subst e
    rw [if_pos rfl, if_pos ⟨h, hn⟩]
    exact val_int (by omega)
  · rw [if_neg e, if_neg (fun hh => e (hh.1.symm.trans h))]; rfl
theorem nxV_size (g : Nat → Nat) (N j : Nat) : (nxV g N j).size = 16 := rowV_size _ _
theorem nxV_one (g : Nat → Nat) (N j : Nat) : (nxV g N j).all (·.oneCell') = true := rowV_one _ _ (fun _ _ => rfl)
/-- The codes of the first j symbols. -/
def cdV (g : Nat → Nat) (N j : Nat) : Array Value := rowV (fun i => .int .u32 ((if i < j then codeAt g N i else 0 : Nat) : Int)) N
theorem cdV_start (g : Nat → Nat) (N : Nat) : rowV (fun _ => .int .u32 0) N = cdV g N 0 := rowV_congr (fun i hi => rfl)
theorem cdV_at (g : Nat → Nat) (N j i : Nat) (h : i < N) : (cdV g N j)[i]? = some (.int .u32 ((if i < j then codeAt g N i else 0 : Nat) : Int)) := rowV_at _ _ _ h
theorem cdV_next (g : Nat → Nat) (N j : Nat) : (cdV g N j).setIfInBounds j (.int .u32 (codeAt g N j : Nat)) = cdV g N (j + 1) := by
  unfold cdV
  rw [rowV_set]
  apply rowV_congr
  intro i hi
  by_cases e : i = j
  · subst e
    rw [if_pos rfl, if_pos (Nat.lt_succ_self _)]
  · rw [if_neg e]
    by_cases c : i < j
    · rw [if_pos c, if_pos (by omega)]
    · rw [if_neg c, if_neg (by omega)]
theorem cdV_none (g : Nat → Nat) (N j : Nat) (h : g j = 0) : cdV g N (j + 1) = cdV g N j := by
  apply rowV_congr
  intro i hi
  by_cases e : i = j
  · subst e
    rw [if_pos (Nat.lt_succ_self _), if_neg (Nat.lt_irrefl _), codeAt_zero h]
  · by_cases c : i < j
    · rw [if_pos c, if_pos (by omega)]
    · rw [if_neg c, if_neg (by omega)]

/-- The codes, while they are made. -/
structure Cod (w W : World) (X C : Nat) (a c : Array Value) : Prop where
  nx : W.heap[X]? = some (.cells a 86 (0, 0))
  cd : W.heap[C]? = some (.cells c 47 (0, 0))
  below : Below w.heap.size w W
  low : w.heap.size ≤ X
  lt : X < C
theorem Cod.setX {w W : World} {X C : Nat} {a c : Array Value} (h : Cod w W X C a c) (n : Nat) (v : Value) : Cod w (W.setCell ⟨X, n, none⟩ v) X C (a.setIfInBounds n v) c :=
  ⟨heap_setCell_same _ _ _ _ _ _ h.nx, (Below.heap_setCell _ _ _ _ (by have := h.lt; simp; omega)).trans h.cd, h.below.setCell h.low v, h.low, h.lt⟩
theorem Cod.setC {w W : World} {X C : Nat} {a c : Array Value} (h : Cod w W X C a c) (n : Nat) (v : Value) : Cod w (W.setCell ⟨C, n, none⟩ v) X C a (c.setIfInBounds n v) :=
  ⟨(Below.heap_setCell _ _ _ _ (by have := h.lt; simp; omega)).trans h.nx, heap_setCell_same _ _ _ _ _ _ h.cd, h.below.setCell (by have := h.lt; have := h.low; simp; omega) v, h.low, h.lt⟩

/-- The codes, as they are handed back. -/
def IsCodes (g : Nat → Nat) (N : Nat) (w : World) (e : Ending) (w' : World) : Prop := ∃ C, w.heap.size ≤ C ∧ e = .returned (.slice (some ⟨C, 0, none⟩) N N) ∧ w'.heap[C]? = some (.cells (cdV g N N) 47 (0, 0)) ∧ Below w.heap.size w w'

end Huff
end Go.Proofs.Ytlfohihmkfphhaa
