/- LZ: what tokens make. Which tokens may be, and how many bytes they make, as the program tells. -/
import Derived.Test.YtlhgkemiakekoaaLzD
namespace Go.Proofs.Ytlhgkemiakekoaa
set_option linter.unusedVariables false
open Go.RowKit
attribute [local go_sem ↓] Go.wp_at_zero Go.wp_at_succ
namespace Lz
/-- A text goes on as it did so far back. -/
def copyT (l : List UInt8) (k : Nat) : Nat → List UInt8
  | 0 => l
  | n + 1 => copyT l k n ++ [(copyT l k n).getD ((copyT l k n).length - k) 0]
theorem copyT_len (l : List UInt8) (k : Nat) : ∀ n, (copyT l k n).length = l.length + n := by
  intro n
  induction n with
  | zero => rfl
  | succ n ih => simp [copyT, ih]; omega
def isB (y z : Int) : Prop := y = 0 ∧ z = 0
def isC (x y z : Int) (n : Nat) : Prop := x = 0 ∧ 3 ≤ y ∧ y ≤ 258 ∧ 1 ≤ z ∧ z ≤ 32768 ∧ z ≤ (n : Int)
instance (y z : Int) : Decidable (isB y z) := by unfold isB; infer_instance
instance (x y z : Int) (n : Nat) : Decidable (isC x y z n) := by unfold isC; infer_instance
def oneE (l : List UInt8) (x y z : Int) : Option (List UInt8) :=
  if isB y z then (if l.length + 1 ≤ 65000 then some (l ++ [UInt8.ofNat x.toNat]) else none)
  else if isC x y z l.length then (if (l.length : Int) + y ≤ 65000 then some (copyT l z.toNat y.toNat) else none) else none
def expT (x y z : Nat → Int) : Nat → Option (List UInt8)
  | 0 => some []
  | k + 1 => (expT x y z k).bind fun l => oneE l (x k) (y k) (z k)
theorem expT_succ {x y z : Nat → Int} {k : Nat} {l : List UInt8} (h : expT x y z k = some l) : expT x y z (k + 1) = oneE l (x k) (y k) (z k) := by
  simp [expT, h]
theorem expT_none {x y z : Nat → Int} {k : Nat} (h : expT x y z k = none) (n : Nat) (hn : k ≤ n) : expT x y z n = none := by
  induction n with
  | zero => obtain rfl : k = 0 := by omega
            exact h
  | succ n ih =>
    by_cases e : k = n + 1
    · subst e; exact h
    · simp [expT, ih (by omega)]
theorem oneE_byte {l : List UInt8} {x y z : Int} (h : isB y z) (h2 : l.length + 1 ≤ 65000) : oneE l x y z = some (l ++ [UInt8.ofNat x.toNat]) := by
  unfold oneE; rw [if_pos h, if_pos h2]
theorem oneE_byte_full {l : List UInt8} {x y z : Int} (h : isB y z) (h2 : ¬ l.length + 1 ≤ 65000) : oneE l x y z = none := by
  unfold oneE; rw [if_pos h, if_neg h2]
theorem isC_not {x y z : Int} {n : Nat} (h : isC x y z n) : ¬ isB y z := fun c => by unfold isC at h; unfold isB at c; omega
theorem oneE_copy {l : List UInt8} {x y z : Int} (h : isC x y z l.length) (h2 : (l.length : Int) + y ≤ 65000) : oneE l x y z = some (copyT l z.toNat y.toNat) := by
  unfold oneE; rw [if_neg (isC_not h), if_pos h, if_pos h2]
theorem oneE_copy_full {l : List UInt8} {x y z : Int} (h : isC x y z l.length) (h2 : ¬ (l.length : Int) + y ≤ 65000) : oneE l x y z = none := by
  unfold oneE; rw [if_neg (isC_not h), if_pos h, if_neg h2]
theorem oneE_bad {l : List UInt8} {x y z : Int} (h : ¬ isB y z) (h2 : ¬ isC x y z l.length) : oneE l x y z = none := by
  unfold oneE; rw [if_neg h, if_neg h2]
theorem oneE_len {l l' : List UInt8} {x y z : Int} (h : oneE l x y z = some l') : l'.length ≤ 65000 := by
  unfold oneE at h
  split at h
  · split at h
    · simp at h; subst h; simp; omega
    · simp at h
  · split at h
    · rename_i hc
      unfold isC at hc
      split at h
      · simp at h; subst h; rw [copyT_len]; omega
      · simp at h
    · simp at h
theorem expT_len {x y z : Nat → Int} : ∀ (k : Nat) (l : List UInt8), expT x y z k = some l → l.length ≤ 65000 := by
  intro k
  cases k with
  | zero => intro l h; simp [expT] at h; subst h; simp
  | succ k =>
    intro l h
    cases e : expT x y z k with
    | none => simp [expT, e] at h
    | some o => exact oneE_len ((expT_succ e).symm.trans h)
theorem expT_congr {x y z x' y' z' : Nat → Int} : ∀ (n : Nat), (∀ k, k < n → x k = x' k ∧ y k = y' k ∧ z k = z' k) → expT x y z n = expT x' y' z' n := by
  intro n
  induction n with
  | zero => intro _; rfl
  | succ n ih =>
    intro h
    obtain ⟨h1, h2, h3⟩ := h n (by omega)
    simp only [expT, ih fun k hk => h k (by omega), h1, h2, h3]

set_option maxRecDepth 100000 in
theorem isByte (x y z : Int) (w : World) : Calls Try.prog 19 #[tokV x y z] w fun e w' => e = .returned (.bool (decide (isB y z))) ∧ Below w.heap.size w w' := by
  by_cases h1 : y = 0
  · by_cases h2 : z = 0
    · rw [show decide (isB y z) = true from decide_eq_true ⟨h1, h2⟩]
      subst h1 h2
      go_enter Try.func19, Try.ntmps19
      go_wp2_with fail
      go_ret
      exact ⟨rfl, (Below.refl _ _).alloc (Nat.le_refl _) _⟩
    · rw [show decide (isB y z) = false from decide_eq_false fun c => h2 c.2]
      subst h1
      have e : (z == 0) = false := by simpa using h2
      go_enter Try.func19, Try.ntmps19
      go_wp2_with fail
      go_ret
      exact ⟨rfl, (Below.refl _ _).alloc (Nat.le_refl _) _⟩
  · rw [show decide (isB y z) = false from decide_eq_false fun c => h1 c.1]
    have e : (y == 0) = false := by simpa using h1
    go_enter Try.func19, Try.ntmps19
    go_wp2_with fail
    go_ret
    exact ⟨rfl, (Below.refl _ _).alloc (Nat.le_refl _) _⟩
set_option maxRecDepth 100000 in
theorem isCopy (x y z : Int) (n : Nat) (w : World) : Calls Try.prog 23 #[tokV x y z, .int .i64 n] w fun e w' => e = .returned (.bool (decide (isC x y z n))) ∧ Below w.heap.size w w' := by
  by_cases h1 : x = 0
  rotate_left
  · rw [show decide (isC x y z n) = false from decide_eq_false fun c => h1 c.1]
    have e : (x == 0) = false := by simpa using h1
    go_enter Try.func23, Try.ntmps23
    go_wp2_with fail
    go_ret
    exact ⟨rfl, (Below.refl _ _).alloc (Nat.le_refl _) _⟩
  by_cases h2 : 3 ≤ y
  rotate_left
  · rw [show decide (isC x y z n) = false from decide_eq_false fun c => h2 c.2.1]
    subst h1
    go_enter Try.func23, Try.ntmps23
    go_wp2_with fail
    go_ret
    exact ⟨rfl, (Below.refl _ _).alloc (Nat.le_refl _) _⟩
  by_cases h3 : y ≤ 258
  rotate_left
  · rw [show decide (isC x y z n) = false from decide_eq_false fun c => h3 c.2.2.1]
    subst h1
    go_enter Try.func23, Try.ntmps23
    go_wp2_with fail
    go_ret
    exact ⟨rfl, (Below.refl _ _).alloc (Nat.le_refl _) _⟩
  by_cases h4 : 1 ≤ z
  rotate_left
  · rw [show decide (isC x y z n) = false from decide_eq_false fun c => h4 c.2.2.2.1]
    subst h1
    go_enter Try.func23, Try.ntmps23
    go_wp2_with fail
    go_ret
    exact ⟨rfl, (Below.refl _ _).alloc (Nat.le_refl _) _⟩
  have HD := hid (show decide (isC x y z n) = decide (z ≤ min 32768 (n : Int)) from by
    by_cases h5 : z ≤ min 32768 (n : Int)
    · rw [decide_eq_true h5, decide_eq_true]; unfold isC; omega
    · rw [decide_eq_false h5, decide_eq_false]; unfold isC; omega)
  subst h1
  generalize decide (isC 0 y z n) = B at HD ⊢
  generalize (n : Int) = m at HD ⊢
  go_enter Try.func23, Try.ntmps23
  go_wp2_with fail
  all_goals go_ret
  all_goals exact ⟨ret_bool (by rw [HD.out]; congr 1; simp; omega), (Below.refl _ _).alloc (Nat.le_refl _) _⟩
end Lz
end Go.Proofs.Ytlhgkemiakekoaa
