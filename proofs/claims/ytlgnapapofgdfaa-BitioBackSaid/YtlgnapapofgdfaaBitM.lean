/- Plain mathematics of bits in bytes: a row of n bits as a number below 2^n. -/
import Derived.Laws.BitsLemmas
namespace Go.Proofs.Bit

/-- The lowest k bytes of n, the lowest first. -/
def putL (n k : Nat) : List UInt8 := (List.range k).map fun i => UInt8.ofNat (n / 256 ^ i % 256)
theorem putL_length (n k : Nat) : (putL n k).length = k := by unfold putL; simp
theorem putL_succ (n k : Nat) : putL n (k + 1) = putL n k ++ [UInt8.ofNat (n / 256 ^ k % 256)] := by
  unfold putL; rw [List.range_succ, List.map_append]; rfl
theorem p256 (k : Nat) : 256 ^ k = 2 ^ (8 * k) := by rw [Nat.pow_mul]

theorem digit_low (a b i f : Nat) (h : i < f) : (a + 256 ^ f * b) / 256 ^ i % 256 = a / 256 ^ i % 256 := by
  obtain ⟨d, rfl⟩ : ∃ d, f = i + (d + 1) := ⟨f - i - 1, by omega⟩
  rw [Nat.pow_add, Nat.mul_assoc, Nat.add_mul_div_left _ _ (Nat.pow_pos (by decide)), Nat.pow_succ]
  have e : 256 ^ d * 256 * b = 256 * (256 ^ d * b) := by rw [Nat.mul_comm (256 ^ d) 256, Nat.mul_assoc]
  rw [e, Nat.add_mul_mod_self_left]
/-- What lies above changes no lower byte. -/
theorem putL_low (a b f : Nat) : putL (a + 256 ^ f * b) f = putL a f := by
  unfold putL
  apply List.map_congr_left
  intro i hi
  rw [digit_low a b i f (List.mem_range.1 hi)]

/-- The i-th bit. -/
def bitAt (N i : Nat) : Nat := N / 2 ^ i % 2
theorem bit_low (a b i n : Nat) (h : i < n) : bitAt (a + 2 ^ n * b) i = bitAt a i := by
  unfold bitAt
  obtain ⟨d, rfl⟩ : ∃ d, n = i + (d + 1) := ⟨n - i - 1, by omega⟩
  rw [Nat.pow_add, Nat.mul_assoc, Nat.add_mul_div_left _ _ (Nat.two_pow_pos _), Nat.pow_succ]
  have e : 2 ^ d * 2 * b = 2 * (2 ^ d * b) := by rw [Nat.mul_comm (2 ^ d) 2, Nat.mul_assoc]
  rw [e, Nat.add_mul_mod_self_left]
/-- The bit just behind. -/
theorem bit_next (a b n : Nat) (h : a < 2 ^ n) : bitAt (a + 2 ^ n * b) n = b % 2 := by
  unfold bitAt
  rw [Nat.add_mul_div_left _ _ (Nat.two_pow_pos _), Nat.div_eq_of_lt h, Nat.zero_add]

/-- So many lowest bits, each as a number. -/
def bitsL (N n : Nat) : List Nat := (List.range n).map (bitAt N)
theorem bitsL_length (N n : Nat) : (bitsL N n).length = n := by unfold bitsL; simp
theorem bitsL_succ (N n : Nat) : bitsL N (n + 1) = bitsL N n ++ [bitAt N n] := by unfold bitsL; rw [List.range_succ, List.map_append]; rfl
theorem bitsL_low (a b n : Nat) : bitsL (a + 2 ^ n * b) n = bitsL a n := by
  unfold bitsL
  apply List.map_congr_left
  intro i hi
  exact bit_low a b i n (List.mem_range.1 hi)
theorem bitsL_at (N n i : Nat) (h : i < n) : (bitsL N n)[i]'(by rw [bitsL_length]; exact h) = bitAt N i := by unfold bitsL; simp

/-- The row and some bits more. -/
theorem more_lt (a x n k : Nat) (ha : a < 2 ^ n) (hx : x < 2 ^ k) : a + 2 ^ n * x < 2 ^ (n + k) := by
  rw [Nat.pow_add]
  have h1 : 2 ^ n * x + 2 ^ n ≤ 2 ^ n * 2 ^ k := by
    rw [← Nat.mul_succ]; exact Nat.mul_le_mul_left _ hx
  omega
/-- What the writer's rest becomes. -/
theorem rest_more (a x n : Nat) : (a + 2 ^ n * x) / 256 ^ (n / 8) = a / 256 ^ (n / 8) + 2 ^ (n % 8) * x := by
  have e : 2 ^ n = 256 ^ (n / 8) * 2 ^ (n % 8) := by
    rw [p256, ← Nat.pow_add]
    congr 1
    omega
  rw [e, Nat.mul_assoc, Nat.add_mul_div_left _ _ (Nat.pow_pos (by decide))]
theorem rest_lt (a n : Nat) (h : a < 2 ^ n) : a / 256 ^ (n / 8) < 2 ^ (n % 8) := by
  have e : 2 ^ n = 256 ^ (n / 8) * 2 ^ (n % 8) := by
    rw [p256, ← Nat.pow_add]
    congr 1
    omega
  rw [Nat.div_lt_iff_lt_mul (Nat.pow_pos (by decide)), Nat.mul_comm, ← e]
  exact h
theorem full_low (a x n : Nat) : putL (a + 2 ^ n * x) (n / 8) = putL a (n / 8) := by
  have e : 2 ^ n * x = 256 ^ (n / 8) * (2 ^ (n % 8) * x) := by
    rw [← Nat.mul_assoc, p256, ← Nat.pow_add]
    congr 2
    omega
  rw [e, putL_low]
/-- A byte more: the number of the first bits, from the highest one on. -/
theorem bits_down (N i k : Nat) (h : k ≤ 7) : 2 * (N / 2 ^ (i + (k + 1)) % 2 ^ (7 - k)) + bitAt N (i + k) = N / 2 ^ (i + k) % 2 ^ (8 - k) := by
  unfold bitAt
  have e1 : N / 2 ^ (i + (k + 1)) = N / 2 ^ (i + k) / 2 := by rw [← Nat.add_assoc, Nat.pow_succ, Nat.div_div_eq_div_mul]
  have e2 : 8 - k = (7 - k) + 1 := by omega
  rw [e1, e2, Nat.pow_succ, Nat.mul_comm (2 ^ (7 - k)) 2, Nat.mod_mul]
  omega

/-- The number of bytes, the lowest first. -/
def getL : List UInt8 → Nat
  | [] => 0
  | c :: l => c.toNat + 256 * getL l
theorem getL_lt (l : List UInt8) : getL l < 256 ^ l.length := by
  induction l with
  | nil => simp [getL]
  | cons c l ih =>
    have := UInt8.toNat_lt c
    simp only [getL, List.length_cons, Nat.pow_succ]
    omega
theorem putL_cons (n k : Nat) : putL n (k + 1) = UInt8.ofNat (n % 256) :: putL (n / 256) k := by
  unfold putL
  rw [List.range_succ_eq_map, List.map_cons, List.map_map]
  congr 1
  · simp
  · apply List.map_congr_left
    intro i _
    simp only [Function.comp]
    rw [Nat.pow_succ, Nat.mul_comm, ← Nat.div_div_eq_div_mul]
theorem put_get (l : List UInt8) : putL (getL l) l.length = l := by
  induction l with
  | nil => rfl
  | cons c l ih =>
    have := UInt8.toNat_lt c
    simp only [List.length_cons]
    rw [putL_cons]
    have e1 : getL (c :: l) % 256 = c.toNat := by simp only [getL]; omega
    have e2 : getL (c :: l) / 256 = getL l := by simp only [getL]; omega
    rw [e1, e2, ih]
    congr 1
    simp
/-- The bytes of a number that is laid behind whole bytes. -/
theorem putL_more (a b f k : Nat) (h : a < 256 ^ f) : putL (a + 256 ^ f * b) (f + k) = putL a f ++ putL b k := by
  induction k with
  | zero => rw [Nat.add_zero, putL_low]; simp [putL]
  | succ k ih =>
    rw [← Nat.add_assoc, putL_succ, ih, putL_succ, List.append_assoc]
    congr 3
    rw [Nat.pow_add, ← Nat.div_div_eq_div_mul, Nat.add_mul_div_left _ _ (Nat.pow_pos (by decide)), Nat.div_eq_of_lt h, Nat.zero_add]
/-- Up to a byte's end. -/
def up8 (n : Nat) : Nat := (n + 7) / 8 * 8
theorem up8_div (n : Nat) : up8 n / 8 = (n + 7) / 8 := by unfold up8; omega
theorem up8_mod (n : Nat) : up8 n % 8 = 0 := by unfold up8; omega
theorem up8_le (n : Nat) : n ≤ up8 n ∧ up8 n ≤ n + 7 := by unfold up8; omega
theorem lt_up (N n m : Nat) (h : N < 2 ^ n) (hm : n ≤ m) : N < 2 ^ m := Nat.lt_of_lt_of_le h (Nat.pow_le_pow_right (by decide) hm)
theorem lt_256 (N n : Nat) (h : N < 2 ^ n) (h8 : n % 8 = 0) : N < 256 ^ (n / 8) := by
  rw [p256, show 8 * (n / 8) = n by omega]; exact h
theorem two_256 (n : Nat) (h8 : n % 8 = 0) : 2 ^ n = 256 ^ (n / 8) := by
  rw [p256, show 8 * (n / 8) = n by omega]
end Go.Proofs.Bit
