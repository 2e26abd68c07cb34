/- EndingReads: the readers where there is no place. -/
import Derived.Test.YthgjijjalfhhcaaEnE
namespace Go.Proofs.Ythgjijjalfhhcaa
set_option linter.unusedVariables false
open Go.RowKit
open Go.Proofs.Num
attribute [local go_sem ↓] Go.wp_at_zero Go.wp_at_succ
namespace Edg
open Fld

set_option maxRecDepth 100000 in
set_option maxHeartbeats 2000000 in
theorem read_out (s : ByteArray) (A : Int) (w : World) (hs : s.size ≤ 9223372036854775807) (h : A < 0 ∨ (s.size : Int) < A) :
    Calls Try.prog 49 #[.string s, .int .i64 A] w fun e w' => e = .returned (.tuple #[endV 0 0 0 0, .bool false]) ∧ Below w.heap.size w w' := by
  have HN := hid (rw_new w 72)
  by_cases h0 : A < 0
  · clear h
    go_enter Try.func49, Try.ntmps49
    go_upto_region 1 with fail
    generalize w.alloc (.cells #[.int .i64 0, .int .i64 0, .int .i64 0, .int .i64 0] 72) = W1 at HN ⊢
    obtain ⟨r0, r1, r2, r3⟩ := four_cells (Below.refl _ _) HN.out.res
    have f0 := frozen_of_row W1 w.heap.size 0 _ _ HN.out.res
    have f1 := frozen_of_row W1 w.heap.size 1 _ _ HN.out.res
    have f2 := frozen_of_row W1 w.heap.size 2 _ _ HN.out.res
    have f3 := frozen_of_row W1 w.heap.size 3 _ _ HN.out.res
    go_wp2_with fail
    exact bodyPost_ret (results_cell_tmp (fn := Try.f49) Try.results49 _ _ w.heap.size 72 _ (0, 0) _ rfl (.bool false) rfl (row4 HN.out.res _ _ _ _) Try.underlying72 rfl size72) rfl
      ⟨rfl, below4 HN.out.below (Nat.le_refl _) _ _ _ _⟩
  · have h1 : (s.size : Int) < A := by omega
    clear h
    go_enter Try.func49, Try.ntmps49
    go_upto_region 1 with fail
    generalize w.alloc (.cells #[.int .i64 0, .int .i64 0, .int .i64 0, .int .i64 0] 72) = W1 at HN ⊢
    obtain ⟨r0, r1, r2, r3⟩ := four_cells (Below.refl _ _) HN.out.res
    have f0 := frozen_of_row W1 w.heap.size 0 _ _ HN.out.res
    have f1 := frozen_of_row W1 w.heap.size 1 _ _ HN.out.res
    have f2 := frozen_of_row W1 w.heap.size 2 _ _ HN.out.res
    have f3 := frozen_of_row W1 w.heap.size 3 _ _ HN.out.res
    go_wp2_with fail
    exact bodyPost_ret (results_cell_tmp (fn := Try.f49) Try.results49 _ _ w.heap.size 72 _ (0, 0) _ rfl (.bool false) rfl (row4 HN.out.res _ _ _ _) Try.underlying72 rfl size72) rfl
      ⟨rfl, below4 HN.out.below (Nat.le_refl _) _ _ _ _⟩

set_option maxRecDepth 100000 in
set_option maxHeartbeats 2000000 in
theorem refRead_out (s : ByteArray) (A : Int) (w : World) (hs : s.size ≤ 9223372036854775807) (h : A < 0 ∨ (s.size : Int) < A) :
    Calls Try.prog 50 #[.string s, .int .i64 A] w fun e w' => e = .returned (.tuple #[endV 0 0 0 0, .bool false]) ∧ Below w.heap.size w w' := by
  have HN := hid (rw_new w 75)
  by_cases h0 : A < 0
  · clear h
    go_enter Try.func50, Try.ntmps50
    go_upto_region 1 with fail
    generalize w.alloc (.cells #[.int .i64 0, .int .i64 0, .int .i64 0, .int .i64 0] 75) = W1 at HN ⊢
    obtain ⟨r0, r1, r2, r3⟩ := four_cells (Below.refl _ _) HN.out.res
    have f0 := frozen_of_row W1 w.heap.size 0 _ _ HN.out.res
    have f1 := frozen_of_row W1 w.heap.size 1 _ _ HN.out.res
    have f2 := frozen_of_row W1 w.heap.size 2 _ _ HN.out.res
    have f3 := frozen_of_row W1 w.heap.size 3 _ _ HN.out.res
    go_wp2_with fail
    exact bodyPost_ret (results_cell_tmp (fn := Try.f50) Try.results50 _ _ w.heap.size 75 _ (0, 0) _ rfl (.bool false) rfl (row4 HN.out.res _ _ _ _) Try.underlying75 rfl size75) rfl
      ⟨rfl, below4 HN.out.below (Nat.le_refl _) _ _ _ _⟩
  · have h1 : (s.size : Int) < A := by omega
    clear h
    go_enter Try.func50, Try.ntmps50
    go_upto_region 1 with fail
    generalize w.alloc (.cells #[.int .i64 0, .int .i64 0, .int .i64 0, .int .i64 0] 75) = W1 at HN ⊢
    obtain ⟨r0, r1, r2, r3⟩ := four_cells (Below.refl _ _) HN.out.res
    have f0 := frozen_of_row W1 w.heap.size 0 _ _ HN.out.res
    have f1 := frozen_of_row W1 w.heap.size 1 _ _ HN.out.res
    have f2 := frozen_of_row W1 w.heap.size 2 _ _ HN.out.res
    have f3 := frozen_of_row W1 w.heap.size 3 _ _ HN.out.res
    go_wp2_with fail
    exact bodyPost_ret (results_cell_tmp (fn := Try.f50) Try.results50 _ _ w.heap.size 75 _ (0, 0) _ rfl (.bool false) rfl (row4 HN.out.res _ _ _ _) Try.underlying75 rfl size75) rfl
      ⟨rfl, below4 HN.out.below (Nat.le_refl _) _ _ _ _⟩

theorem read_any (s : ByteArray) (A : Nat) (w : World) (hs : s.size ≤ 9223372036854775807) :
    Calls Try.prog 49 #[.string s, .int .i64 (A : Int)] w fun e w' => e = .returned (.tuple #[valT (s.extract A s.size), .bool (okT (s.extract A s.size))]) ∧ Below w.heap.size w w' := by
  by_cases h : A ≤ s.size
  · exact read_at s _ A w h hs rfl
  · have ho : okT (s.extract A s.size) = false := okT_lt (by simp [ByteArray.size_extract]; omega)
    rw [valT_no ho, ho]
    exact read_out s A w hs (.inr (by omega))
theorem refRead_any (s : ByteArray) (A : Nat) (w : World) (hs : s.size ≤ 9223372036854775807) :
    Calls Try.prog 50 #[.string s, .int .i64 (A : Int)] w fun e w' => e = .returned (.tuple #[valT (s.extract A s.size), .bool (okT (s.extract A s.size))]) ∧ Below w.heap.size w w' := by
  by_cases h : A ≤ s.size
  · exact refRead_at s _ A w h hs rfl
  · have ho : okT (s.extract A s.size) = false := okT_lt (by simp [ByteArray.size_extract]; omega)
    rw [valT_no ho, ho]
    exact refRead_out s A w hs (.inr (by omega))

def toldR (s : ByteArray) (A : Int) : Value × Bool := if 0 ≤ A then (valT (s.extract A.toNat s.size), okT (s.extract A.toNat s.size)) else (endV 0 0 0 0, false)
theorem read_all (s : ByteArray) (A : Int) (w : World) (hs : s.size ≤ 9223372036854775807) :
    Calls Try.prog 49 #[.string s, .int .i64 A] w fun e w' => e = .returned (.tuple #[(toldR s A).1, .bool (toldR s A).2]) ∧ Below w.heap.size w w' := by
  by_cases h : 0 ≤ A
  · obtain ⟨a, rfl⟩ := Int.eq_ofNat_of_zero_le h
    unfold toldR
    rw [if_pos h, Int.toNat_natCast]
    exact read_any s a w hs
  · unfold toldR
    rw [if_neg h]
    exact read_out s A w hs (.inl (by omega))
theorem refRead_all (s : ByteArray) (A : Int) (w : World) (hs : s.size ≤ 9223372036854775807) :
    Calls Try.prog 50 #[.string s, .int .i64 A] w fun e w' => e = .returned (.tuple #[(toldR s A).1, .bool (toldR s A).2]) ∧ Below w.heap.size w w' := by
  by_cases h : 0 ≤ A
  · obtain ⟨a, rfl⟩ := Int.eq_ofNat_of_zero_le h
    unfold toldR
    rw [if_pos h, Int.toNat_natCast]
    exact refRead_any s a w hs
  · unfold toldR
    rw [if_neg h]
    exact refRead_out s A w hs (.inl (by omega))
end Edg
end Go.Proofs.Ythgjijjalfhhcaa
