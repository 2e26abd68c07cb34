/- CommitWrites: marks that may not be; the document's own sector. -/
import Derived.Test.YthgjijjalfhhcabDoorCoE
namespace Go.Proofs.YthgjijjalfhhcabDoor
set_option linter.unusedVariables false
open Go.RowKit
open Go.Proofs.Num
attribute [local go_sem ↓] Go.wp_at_zero Go.wp_at_succ
namespace Com
open Fld

/-- Which marks may not be. -/
def No (T L : Int) : Prop := T < 0 ∨ 1099511627776 < T ∨ L < 534 ∨ 4194304 < L
theorem no_or (T L : Int) : No T L ∨ ∃ t l : Nat, Ok t l ∧ T = t ∧ L = l := by
  by_cases h : No T L
  · exact .inl h
  · unfold No at h
    exact .inr ⟨T.toNat, L.toNat, ⟨by omega, by omega, by omega⟩, by omega, by omega⟩
theorem no_ok {t l : Nat} (h : Ok t l) : ¬ No t l := by
  have h1 := h.t1
  have h2 := h.l0
  have h3 := h.l1
  unfold No
  omega

set_option maxRecDepth 100000 in
theorem within_lo (n a b : Int) (w : World) (h0 : n < a) : Calls Tryd.prog 36 #[.int .i64 n, .int .i64 a, .int .i64 b] w fun e w' => e = .returned (.bool false) ∧ w = w' := by
  have h1 : ¬ a ≤ n := by omega
  go_enter Tryd.func36, Tryd.ntmps36
  go_wp2_with fail
  go_ret
  exact ⟨rfl, rfl⟩
set_option maxRecDepth 100000 in
theorem within_hi (n a b : Int) (w : World) (h0 : a ≤ n) (h2 : b < n) : Calls Tryd.prog 36 #[.int .i64 n, .int .i64 a, .int .i64 b] w fun e w' => e = .returned (.bool false) ∧ w = w' := by
  have h1 : ¬ n ≤ b := by omega
  go_enter Tryd.func36, Tryd.ntmps36
  go_wp2_with fail
  go_ret
  exact ⟨rfl, rfl⟩
theorem no_cases {T L : Int} (h : No T L) : T < 0 ∨ (0 ≤ T ∧ 1099511627776 < T) ∨ (0 ≤ T ∧ T ≤ 1099511627776 ∧ L < 534) ∨ (0 ≤ T ∧ T ≤ 1099511627776 ∧ 534 ≤ L ∧ 4194304 < L) := by
  unfold No at h
  omega
set_option maxRecDepth 100000 in
theorem right_no (T L : Int) (h : No T L) (w : World) : Calls Tryd.prog 16 #[markV T L] w fun e w' => e = .returned (.bool false) ∧ Below w.heap.size w w' := by
  go_enter Tryd.func16, Tryd.ntmps16
  rcases no_cases h with h1 | ⟨h1, h2⟩ | ⟨h1, h2, h3⟩ | ⟨h1, h2, h3, h4⟩
  · go_wp2_with fail
    refine (within_lo T 0 1099511627776 _ h1).mono ?_
    rintro e w1 ⟨rfl, rfl⟩
    go_wp2_with fail
    go_ret
    exact ⟨rfl, (Below.refl _ _).alloc (Nat.le_refl _) _⟩
  · go_wp2_with fail
    refine (within_hi T 0 1099511627776 _ h1 h2).mono ?_
    rintro e w1 ⟨rfl, rfl⟩
    go_wp2_with fail
    go_ret
    exact ⟨rfl, (Below.refl _ _).alloc (Nat.le_refl _) _⟩
  · go_wp2_with fail
    refine (within T 0 1099511627776 _ h1 h2).mono ?_
    rintro e w1 ⟨rfl, rfl⟩
    go_wp2_with fail
    refine (within_lo L 534 4194304 _ h3).mono ?_
    rintro e w1 ⟨rfl, rfl⟩
    go_wp2_with fail
    go_ret
    exact ⟨rfl, (Below.refl _ _).alloc (Nat.le_refl _) _⟩
  · go_wp2_with fail
    refine (within T 0 1099511627776 _ h1 h2).mono ?_
    rintro e w1 ⟨rfl, rfl⟩
    go_wp2_with fail
    refine (within_hi L 534 4194304 _ h3 h4).mono ?_
    rintro e w1 ⟨rfl, rfl⟩
    go_wp2_with fail
    go_ret
    exact ⟨rfl, (Below.refl _ _).alloc (Nat.le_refl _) _⟩
end Com
end Go.Proofs.YthgjijjalfhhcabDoor
