/- Plain mathematics of numbers as bytes, the lowest first. -/
import Derived.Laws.BitsLemmas
namespace Go.Proofs.Num

/-- The lowest k bytes of n, the lowest first. -/
def putL (n k : Nat) : List UInt8 := (List.range k).map fun i => UInt8.ofNat (n / 256 ^ i % 256)
/-- The number of bytes, the lowest first. -/
def getL : List UInt8 → Nat
  | [] => 0
  | c :: l => c.toNat + 256 * getL l

theorem putL_length (n k : Nat) : (putL n k).length = k := by unfold putL; simp
theorem putL_zero (n : Nat) : putL n 0 = [] := rfl
theorem putL_succ (n k : Nat) : putL n (k + 1) = putL n k ++ [UInt8.ofNat (n / 256 ^ k % 256)] := by
  unfold putL; rw [List.range_succ, List.map_append]; rfl
theorem putL_at (n k j : Nat) (h : j < k) : (putL n k)[j]'(by rw [putL_length]; exact h) = UInt8.ofNat (n / 256 ^ j % 256) := by
  unfold putL; simp
theorem byte_toNat (n : Nat) (h : n < 256) : (UInt8.ofNat n).toNat = n := by simp; omega
theorem putL_cons (n k : Nat) : putL n (k + 1) = UInt8.ofNat (n % 256) :: putL (n / 256) k := by
  unfold putL
  rw [List.range_succ_eq_map, List.map_cons, List.map_map]
  simp only [Nat.pow_zero, Nat.div_one, List.cons.injEq, true_and]
  apply List.map_congr_left
  intro i _
  simp only [Function.comp_apply]
  rw [Nat.pow_succ, Nat.mul_comm, ← Nat.div_div_eq_div_mul]

theorem getL_put (n k : Nat) : getL (putL n k) = n % 256 ^ k := by
  induction k generalizing n with
  | zero => simp [putL_zero, getL, Nat.mod_one]
  | succ k ih =>
    rw [putL_cons]
    simp only [getL]
    rw [byte_toNat _ (Nat.mod_lt _ (by decide)), ih, Nat.pow_succ, Nat.mul_comm (256 ^ k), Nat.mod_mul]

theorem getL_lt (l : List UInt8) : getL l < 256 ^ l.length := by
  induction l with
  | nil => decide
  | cons c l ih =>
    have := UInt8.toNat_lt c
    simp only [getL, List.length_cons, Nat.pow_succ]
    omega

theorem getL_snoc (l : List UInt8) (c : UInt8) : getL (l ++ [c]) = getL l + 256 ^ l.length * c.toNat := by
  induction l with
  | nil => simp [getL]
  | cons d l ih =>
    simp only [List.cons_append, getL, List.length_cons, Nat.pow_succ]
    rw [ih, Nat.mul_add, Nat.mul_comm (256 ^ l.length) 256, Nat.mul_assoc, Nat.add_assoc]

theorem pow256 (k : Nat) : (2 : Nat) ^ (8 * k) = 256 ^ k := by rw [Nat.pow_mul]

/-- So many bytes are written. -/
def wideN (wide : Int) : Nat := (min (max wide 0) 8).toNat
theorem wide_le (wide : Int) : wideN wide ≤ 8 := by unfold wideN; omega

end Go.Proofs.Num
