/- WALKS: the first code of each length. -/
import Derived.Test.YthgjijjalfhhcaaHufU
namespace Go.Proofs.Ythgjijjalfhhcaa
set_option linter.unusedVariables false
open Go.RowKit
open Go.Proofs.Huf
namespace Huff

/-- The first codes of the lengths below n. -/
def fV (g : Nat → Nat) (N n : Nat) : Array Value := rowV (fun i => .int .u32 ((if i < n then fT g N i else 0 : Nat) : Int)) 16
theorem fV_start (g : Nat → Nat) (N : Nat) : fV g N 1 = #[.int .u32 0, .int .u32 0, .int .u32 0, .int .u32 0, .int .u32 0, .int .u32 0, .int .u32 0, .int .u32 0, .int .u32 0, .int .u32 0, .int .u32 0, .int .u32 0, .int .u32 0, .int .u32 0, .int .u32 0, .int .u32 0] := rfl
theorem fV_at (g : Nat → Nat) (N n i : Nat) (h : i < 16) : (fV g N n)[i]? = some (.int .u32 ((if i < n then fT g N i else 0 : Nat) : Int)) := rowV_at _ _ _ h
theorem fV_next (g : Nat → Nat) (N n : Nat) : (fV g N n).setIfInBounds n (.int .u32 ((fT g N n : Nat) : Int)) = fV g N (n + 1) := by
  unfold fV
  rw [rowV_set]
  apply rowV_congr
  intro i hi
  by_cases e : i = n
  · subst e
    rw [if_pos rfl, if_pos (Nat.lt_succ_self _)]
  · rw [if_neg e]
    by_cases c : i < n
    · rw [if_pos c, if_pos (by omega)]
    · rw [if_neg c, if_neg (by omega)]
theorem fV_one (g : Nat → Nat) (N n : Nat) : (fV g N n).all (·.oneCell') = true := rowV_one _ _ (fun _ _ => rfl)
theorem fV_size (g : Nat → Nat) (N n : Nat) : (fV g N n).size = 16 := rowV_size _ _

/-- The first codes, while they are made. -/
structure Fir (w W : World) (G : Nat) (k z c : Array Value) : Prop where
  box : W.heap[G]? = some (.cells k 83 (0, 0))
  res : W.heap[G + 1]? = some (.cells z 86 (0, 0))
  blk : W.heap[G + 1 + 1]? = some (.cells c 86 (0, 0))
  below : Below w.heap.size w W
  low : w.heap.size ≤ G
theorem fir_new (w : World) (k z c : Array Value) : Fir w (((w.alloc (.cells k 83)).alloc (.cells z 86)).alloc (.cells c 86)) w.heap.size k z c := by
  have h1 : (w.alloc (.cells k 83)).heap.size = w.heap.size + 1 := by simp
  have h2 := heap_alloc2_old (w.alloc (.cells k 83)) (.cells z 86) (.cells c 86)
  have h3 := heap_alloc2_new (w.alloc (.cells k 83)) (.cells z 86) (.cells c 86)
  rw [h1] at h2 h3
  refine ⟨?_, h2, h3, (((Below.refl _ _).alloc (Nat.le_refl _) _).alloc (by simp) _).alloc (by simp; omega) _, Nat.le_refl _⟩
  rw [Below.heap_alloc _ _ _ (by simp; omega), Below.heap_alloc _ _ _ (by simp)]
  exact heap_alloc_new w _
theorem Fir.set {w W : World} {G : Nat} {k z c : Array Value} (h : Fir w W G k z c) (n : Nat) (v : Value) : Fir w (W.setCell ⟨G + 1 + 1, n, none⟩ v) G k z (c.setIfInBounds n v) :=
  ⟨(Below.heap_setCell _ _ _ _ (by simp; omega)).trans h.box, (Below.heap_setCell _ _ _ _ (by simp)).trans h.res, heap_setCell_same _ _ _ _ _ _ h.blk, h.below.setCell (by have := h.low; simp; omega) v, h.low⟩
theorem Fir.drew {w W : World} {G : Nat} {k z c : Array Value} (h : Fir w W G k z c) : Fir w W.drew G k z c := ⟨h.box, h.res, h.blk, h.below.drew, h.low⟩

set_option maxRecDepth 100000 in
set_option maxHeartbeats 1000000 in
theorem firsts (g : Nat → Nat) (N : Nat) (w : World) (hN : N ≤ 300) :
    Calls Try.prog 55 #[.agg (cntV g N)] w fun e w' => e = .returned (.agg (fV g N 16)) ∧ Below w.heap.size w w' := by
  go_enter Try.func55, Try.ntmps55
  go_wp2_with fail
  have HF := hid (fir_new w (cntV g N) (fV g N 1) (fV g N 1))
  rw [fV_start] at HF
  generalize ((w.alloc (.cells (cntV g N) 83)).alloc (.cells #[.int .u32 0, .int .u32 0, .int .u32 0, .int .u32 0, .int .u32 0, .int .u32 0, .int .u32 0, .int .u32 0, .int .u32 0, .int .u32 0, .int .u32 0, .int .u32 0, .int .u32 0, .int .u32 0, .int .u32 0, .int .u32 0] 86)).alloc (.cells #[.int .u32 0, .int .u32 0, .int .u32 0, .int .u32 0, .int .u32 0, .int .u32 0, .int .u32 0, .int .u32 0, .int .u32 0, .int .u32 0, .int .u32 0, .int .u32 0, .int .u32 0, .int .u32 0, .int .u32 0, .int .u32 0] 86) = W0 at HF ⊢
  rw [← fV_start g N] at HF
  generalize w.heap.size = G at HF ⊢
  go_loopw [4] (fun i wr => ∃ m : Nat, m ≤ 15 ∧ i = .int .i64 ((m : Int) + 1) ∧ Fir w wr G (cntV g N) (fV g N 1) (fV g N (m + 1))) (fun i _ => 16 - (intOf i).toNat)
  case atStart => exact ⟨0, by omega, rfl, HF.out⟩
  case round =>
    obtain ⟨m, hm, rfl, hc⟩ := hrel
    have HW := hid hc
    clear hc HF
    by_cases hlt : m < 15
    · have c1 : wr.cell? ⟨G + 1 + 1, m, none⟩ = some (.int .u32 (fT g N m : Nat)) := by
        rw [cell_of_row _ _ _ _ _ _ HW.out.blk, fV_at _ _ _ _ (by omega), if_pos (by omega)]
      have c2 : wr.cell? ⟨G, m, none⟩ = some (.int .i64 (cT g N m : Nat)) := by
        rw [cell_of_row _ _ _ _ _ _ HW.out.box, cntV_at _ _ _ (by omega)]
      have c3 : ∃ v, wr.cell? ⟨G + 1 + 1, m + 1, none⟩ = some v := ⟨_, by rw [cell_of_row _ _ _ _ _ _ HW.out.blk, fV_at _ _ _ _ (by omega)]⟩
      obtain ⟨v3, c3⟩ := c3
      have f3 : wr.frozen? ⟨G + 1 + 1, m + 1, none⟩ = false := frozen_of_row _ _ _ _ _ HW.out.blk
      have hb := fT_bd g N m N hN (by omega) (Nat.le_refl _)
      have HS := hid (fT_succ g N m)
      have HN := hid (fV_next g N (m + 1))
      generalize cT g N m = q at c2 hb HS
      generalize fT g N m = p at c1 hb HS
      generalize hz : fT g N (m + 1) = z at HS HN
      have HZ := hid hz
      have hp : (p : Int) ≤ 9830400 := by omega
      have hq : (q : Int) ≤ 9830400 := by omega
      have e1 : IntKind.i64.wrap (m : Int) = (m : Int) := by rw [IntKind.wrap_i64]; omega
      have e2 : IntKind.u32.wrap (q : Int) = (q : Int) := by rw [IntKind.wrap_u32]; omega
      have e3 : IntKind.u32.wrap ((p : Int) + (q : Int)) = (p : Int) + (q : Int) := by rw [IntKind.wrap_u32]; omega
      have e4 : IntKind.u32.wrap (((p : Int) + (q : Int)) * 2) = (z : Int) := by rw [IntKind.wrap_u32, HS.out]; omega
      have m1 : (m : Int) < 16 := by omega
      have m2 : (m : Int) + 1 < 16 := by omega
      have m3 : (0 : Int) ≤ (m : Int) + 1 := by omega
      have m4 : ((m : Int) + 1).toNat = m + 1 := by omega
      clear hz hb
      go_wp2_with fail
      go_still_tail 13, (by kernel_rfl)
      change wpList _ _ _ _ _ wr.drew
      have HD := hid HW.out.drew
      have c4 : wr.drew.cell? ⟨G + 1 + 1, m + 1, none⟩ = some v3 := c3
      have f4 : wr.drew.frozen? ⟨G + 1 + 1, m + 1, none⟩ = false := f3
      generalize wr.drew = WD at *
      clear c1 c2 c3 f3 e1 e2 e3 e4
      go_wp2_with fail
      go_roundw
      case rel => exact ⟨m + 1, by omega, by simp, by have h := HD.out.set (m + 1) (.int .u32 (z : Int)); rw [HN.out] at h; exact h⟩
      case measure => simp [intOf]; omega
    · obtain rfl : m = 15 := by omega
      have h1 := HW.out.blk
      have h2 := HW.out.res
      go_wp2_with (first | (refine wpList_load_row rfl 86 _ rfl (G + 1 + 1) rfl 86 (fV g N 16) (0, 0) (.array 16 23) h1 und86 rfl (by rw [fV_size]; exact size86) ?_) | (refine wpList_store_row rfl 86 _ _ rfl (G + 1) (fV g N 16) rfl rfl 86 (fV g N 1) h2 (by rw [fV_size]; exact size86) (by rw [fV_size, fV_size]) (fV_one _ _ _) ?_))
      exact bodyPost_ret (results_cell_row (fn := Try.f55) rfl _ _ (G + 1) 86 (fV g N 16) (0, 0) (.array 16 23) rfl (setRow_heap _ _ _ _ _ _ h2) und86 rfl (by rw [fV_size]; exact size86)) rfl ⟨rfl, below_setRow HW.out.below (Nat.le_succ_of_le HW.out.low) _⟩
end Huff
end Go.Proofs.Ythgjijjalfhhcaa
