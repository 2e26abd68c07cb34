/- RUNS: mathematics of rows of lengths and of their steps. No program in it. -/
import Derived.WalkKit
namespace Go.Proofs.Runs

def bitsI (s : Int) : Int := if 0 ≤ s ∧ s ≤ 15 then 0 else if s = 16 then 2 else if s = 17 then 3 else if s = 18 then 7 else -1
def leastI (s : Int) : Int := if s = 16 ∨ s = 17 then 3 else if s = 18 then 11 else 1
/-- There is such a step. -/
def okS (s b m : Int) : Prop := (0 ≤ s ∧ s ≤ 15 ∧ b = 0 ∧ m = 0) ∨ (s = 16 ∧ b = 2 ∧ 0 ≤ m ∧ m < 4) ∨ (s = 17 ∧ b = 3 ∧ 0 ≤ m ∧ m < 8) ∨ (s = 18 ∧ b = 7 ∧ 0 ≤ m ∧ m < 128)
instance (s b m : Int) : Decidable (okS s b m) := by unfold okS; infer_instance
def room (s : Int) : Int := if 0 ≤ s ∧ s ≤ 15 then 1 else if s = 16 then 4 else if s = 17 then 8 else if s = 18 then 128 else 1
theorem bits_le (s : Int) : bitsI s = 0 ∧ room s = 1 ∧ 0 ≤ s ∧ s ≤ 15 ∨ bitsI s = 2 ∧ room s = 4 ∧ s = 16 ∨ bitsI s = 3 ∧ room s = 8 ∧ s = 17 ∨ bitsI s = 7 ∧ room s = 128 ∧ s = 18 ∨ bitsI s = -1 ∧ room s = 1 ∧ (s < 0 ∨ 18 < s) := by
  unfold bitsI room
  by_cases h0 : 0 ≤ s ∧ s ≤ 15
  · rw [if_pos h0, if_pos h0]; omega
  · rw [if_neg h0, if_neg h0]
    by_cases h1 : s = 16
    · subst h1; simp
    · rw [if_neg h1, if_neg h1]
      by_cases h2 : s = 17
      · subst h2; simp
      · rw [if_neg h2, if_neg h2]
        by_cases h3 : s = 18
        · subst h3; simp
        · rw [if_neg h3, if_neg h3]; omega
/-- What may be wrong with a step, the first of it. -/
theorem not_ok {s b m : Int} (h : ¬ okS s b m) : bitsI s = -1 ∨ (bitsI s ≠ -1 ∧ b ≠ bitsI s) ∨ (bitsI s ≠ -1 ∧ b = bitsI s ∧ m < 0) ∨ (bitsI s ≠ -1 ∧ b = bitsI s ∧ 0 ≤ m ∧ room s ≤ m) := by
  unfold okS at h
  have := bits_le s
  omega
theorem ok_bits {s b m : Int} (h : okS s b m) : bitsI s ≠ -1 ∧ b = bitsI s ∧ 0 ≤ m ∧ m < room s := by
  unfold okS at h
  have := bits_le s
  omega
/-- How many lengths a step stands for. -/
def manyI (s m : Int) : Int := leastI s + m
theorem many_cases (s m : Int) : s = 16 ∧ manyI s m = 3 + m ∨ s = 17 ∧ manyI s m = 3 + m ∨ s = 18 ∧ manyI s m = 11 + m ∨ (s ≠ 16 ∧ s ≠ 17 ∧ s ≠ 18) ∧ manyI s m = 1 + m := by
  unfold manyI leastI
  by_cases h1 : s = 16
  · subst h1; simp
  · by_cases h2 : s = 17
    · subst h2; simp
    · by_cases h3 : s = 18
      · subst h3; simp
      · rw [if_neg (by omega), if_neg h3]; omega
theorem ok_many {s b m : Int} (h : okS s b m) : 1 ≤ manyI s m ∧ manyI s m ≤ 138 := by
  unfold okS at h
  have := many_cases s m
  omega
/-- Which length a step stands for. -/
def valI (o : List Int) (s : Int) : Int := if s = 16 then o.getD (o.length - 1) 0 else if s < 16 then s else 0
/-- A row, and what a step makes of it. -/
def oneT (o : List Int) (s b m : Int) : Option (List Int) :=
  if okS s b m ∧ ¬ (s = 16 ∧ o.length = 0) ∧ (o.length : Int) + manyI s m ≤ 400 then some (o ++ List.replicate (manyI s m).toNat (valI o s)) else none
def rowT (x y z : Nat → Int) : Nat → Option (List Int)
  | 0 => some []
  | k + 1 => (rowT x y z k).bind fun o => oneT o (x k) (y k) (z k)
theorem rowT_succ {x y z : Nat → Int} {k : Nat} {o : List Int} (h : rowT x y z k = some o) : rowT x y z (k + 1) = oneT o (x k) (y k) (z k) := by
  simp [rowT, h]
theorem rowT_none {x y z : Nat → Int} {k : Nat} (h : rowT x y z k = none) (n : Nat) (hn : k ≤ n) : rowT x y z n = none := by
  induction n with
  | zero => obtain rfl : k = 0 := by omega
            exact h
  | succ n ih =>
    by_cases e : k = n + 1
    · subst e; exact h
    · simp [rowT, ih (by omega)]
theorem rowT_len {x y z : Nat → Int} : ∀ (k : Nat) (o : List Int), rowT x y z k = some o → o.length ≤ 400 := by
  intro k
  cases k with
  | zero => intro o h; simp [rowT] at h; subst h; simp
  | succ k =>
    intro o h
    cases e : rowT x y z k with
    | none => simp [rowT, e] at h
    | some o' =>
      rw [rowT_succ e] at h
      unfold oneT at h
      split at h
      · rename_i hc
        simp at h
        subst h
        have := ok_many hc.1
        simp
        omega
      · simp at h
theorem rowT_congr {x y z x' y' z' : Nat → Int} : ∀ (n : Nat), (∀ k, k < n → x k = x' k ∧ y k = y' k ∧ z k = z' k) → rowT x y z n = rowT x' y' z' n := by
  intro n
  induction n with
  | zero => intro _; rfl
  | succ n ih =>
    intro h
    obtain ⟨h1, h2, h3⟩ := h n (by omega)
    simp only [rowT, ih fun k hk => h k (by omega), h1, h2, h3]
theorem oneT_bad {o : List Int} {s b m : Int} (h : ¬ okS s b m) : oneT o s b m = none := if_neg fun c => h c.1
theorem oneT_head {o : List Int} {s b m : Int} (h : s = 16) (h0 : o.length = 0) : oneT o s b m = none := if_neg fun c => c.2.1 ⟨h, h0⟩
theorem oneT_full {o : List Int} {s b m : Int} (h : 400 < (o.length : Int) + manyI s m) : oneT o s b m = none := if_neg fun c => by have := c.2.2; omega
theorem oneT_ok {o : List Int} {s b m : Int} (h : okS s b m) (h0 : ¬ (s = 16 ∧ o.length = 0)) (h1 : (o.length : Int) + manyI s m ≤ 400) : oneT o s b m = some (o ++ List.replicate (manyI s m).toNat (valI o s)) := if_pos ⟨h, h0, h1⟩
end Go.Proofs.Runs
