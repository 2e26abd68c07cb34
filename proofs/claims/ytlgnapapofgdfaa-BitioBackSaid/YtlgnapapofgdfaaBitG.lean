/- MATHEMATICS of what any steps have written, and of what is read behind one another. -/
import Derived.Test.YtlgnapapofgdfaaBitC
namespace Go.Proofs.Ytlgnapapofgdfaa
set_option linter.unusedVariables false
open Go.RowKit
open Go.Proofs.Bit

/-- The bits behind the first k steps, and how many. -/
def st (K C : Nat → Int) (V : Nat → Nat) (S : Nat → ByteArray) : Nat → Nat × Nat
  | 0 => (0, 0)
  | k + 1 => if K k % 3 = 2 then (addT (st K C V S k).1 (st K C V S k).2 (S k), up8 (st K C V S k).2 + 8 * (S k).size)
    else ((st K C V S k).1 + 2 ^ (st K C V S k).2 * (V k % 2 ^ manyN (C k)), (st K C V S k).2 + manyN (C k))

section
variable (K C : Nat → Int) (V : Nat → Nat) (S : Nat → ByteArray)
theorem st_text (k : Nat) (h : K k % 3 = 2) : st K C V S (k + 1) = (addT (st K C V S k).1 (st K C V S k).2 (S k), up8 (st K C V S k).2 + 8 * (S k).size) := by
  show (if _ then _ else _) = _
  rw [if_pos h]
theorem st_bits (k : Nat) (h : ¬ K k % 3 = 2) : st K C V S (k + 1) = ((st K C V S k).1 + 2 ^ (st K C V S k).2 * (V k % 2 ^ manyN (C k)), (st K C V S k).2 + manyN (C k)) := by
  show (if _ then _ else _) = _
  rw [if_neg h]

theorem getL_lt2 (s : ByteArray) : getL s.data.toList < 2 ^ (8 * s.size) := by
  have := getL_lt s.data.toList
  rw [p256] at this
  exact this

theorem addT_lt (N n : Nat) (s : ByteArray) (h : N < 2 ^ n) : addT N n s < 2 ^ (up8 n + 8 * s.size) := by
  unfold addT
  exact more_lt N _ (up8 n) _ (lt_up N n _ h (up8_le n).1) (getL_lt2 s)

theorem st_lt (k : Nat) : (st K C V S k).1 < 2 ^ (st K C V S k).2 := by
  induction k with
  | zero => exact Nat.one_pos
  | succ k ih =>
    by_cases h : K k % 3 = 2
    · rw [st_text K C V S k h]
      exact addT_lt _ _ _ ih
    · rw [st_bits K C V S k h]
      exact more_lt _ _ _ _ ih (Nat.mod_lt _ (Nat.two_pow_pos _))
theorem st_next (k : Nat) : (st K C V S (k + 1)).1 % 2 ^ (st K C V S k).2 = (st K C V S k).1 ∧ (st K C V S k).2 ≤ (st K C V S (k + 1)).2 := by
  have hl := st_lt K C V S k
  by_cases h : K k % 3 = 2
  · rw [st_text K C V S k h]
    have hu := up8_le (st K C V S k).2
    refine ⟨?_, by show _ ≤ up8 _ + _; omega⟩
    show addT _ _ _ % _ = _
    unfold addT
    rw [show up8 (st K C V S k).2 = (st K C V S k).2 + (up8 (st K C V S k).2 - (st K C V S k).2) by omega, Nat.pow_add, Nat.mul_assoc, Nat.add_mul_mod_self_left]
    exact Nat.mod_eq_of_lt hl
  · rw [st_bits K C V S k h]
    refine ⟨?_, by show _ ≤ _ + _; omega⟩
    show ((st K C V S k).1 + 2 ^ (st K C V S k).2 * _) % _ = _
    rw [Nat.add_mul_mod_self_left]
    exact Nat.mod_eq_of_lt hl
theorem st_low (k d : Nat) : (st K C V S (k + d)).1 % 2 ^ (st K C V S k).2 = (st K C V S k).1 ∧ (st K C V S k).2 ≤ (st K C V S (k + d)).2 := by
  induction d with
  | zero => exact ⟨Nat.mod_eq_of_lt (st_lt K C V S k), Nat.le_refl _⟩
  | succ d ih =>
    obtain ⟨h1, h2⟩ := st_next K C V S (k + d)
    refine ⟨?_, Nat.le_trans ih.2 h2⟩
    rw [← ih.1, ← h1, Nat.mod_mod_of_dvd _ (Nat.pow_dvd_pow 2 ih.2)]
    rfl
theorem read_bits (k L : Nat) (hk : k < L) (h : ¬ K k % 3 = 2) :
    (st K C V S L).1 / 2 ^ (st K C V S k).2 % 2 ^ manyN (C k) = V k % 2 ^ manyN (C k) ∧ (st K C V S k).2 + manyN (C k) ≤ (st K C V S L).2 := by
  obtain ⟨d, rfl⟩ : ∃ d, L = (k + 1) + d := ⟨L - (k + 1), by omega⟩
  obtain ⟨h1, h2⟩ := st_low K C V S (k + 1) d
  have hl := st_lt K C V S k
  have e := st_bits K C V S k h
  generalize (st K C V S (k + 1 + d)) = Z at *
  rw [e] at h1 h2
  refine ⟨?_, h2⟩
  have h3 : Z.1 % 2 ^ ((st K C V S k).2 + manyN (C k)) = (st K C V S k).1 + 2 ^ (st K C V S k).2 * (V k % 2 ^ manyN (C k)) := h1
  have h4 : Z.1 / 2 ^ (st K C V S k).2 % 2 ^ manyN (C k) = Z.1 % (2 ^ (st K C V S k).2 * 2 ^ manyN (C k)) / 2 ^ (st K C V S k).2 := (Nat.mod_mul_right_div_self _ _ _).symm
  rw [h4, ← Nat.pow_add, h3, Nat.add_mul_div_left _ _ (Nat.two_pow_pos _), Nat.div_eq_of_lt hl, Nat.zero_add]
end

theorem putL_get (N k i : Nat) (h : i < k) : (putL N k)[i]'(by rw [putL_length]; exact h) = UInt8.ofNat (N / 256 ^ i % 256) := by
  unfold putL
  simp
theorem putL_part (N a l q : Nat) (h : a + l ≤ q) : ((putL N q).drop a).take l = putL (N / 256 ^ a) l := by
  apply List.ext_getElem
  · rw [List.length_take, List.length_drop, putL_length, putL_length]; omega
  · intro i h1 h2
    rw [List.getElem_take, List.getElem_drop]
    rw [putL_get _ _ _ (by rw [putL_length] at h2; omega), putL_get _ _ _ (by rw [putL_length] at h2; exact h2), Nat.div_div_eq_div_mul, ← Nat.pow_add]
theorem part_text (N a : Nat) (s : ByteArray) (h : N / 256 ^ a % 256 ^ s.size = getL s.data.toList) : putL (N / 256 ^ a) s.size = s.data.toList := by
  have h1 : N / 256 ^ a = getL s.data.toList + 256 ^ s.size * (N / 256 ^ a / 256 ^ s.size) := by rw [← h]; exact (Nat.mod_add_div _ _).symm
  rw [h1, putL_low]
  exact put_get s.data.toList
theorem bytes_part (N n a : Nat) (s : ByteArray) (h : N / 256 ^ a % 256 ^ s.size = getL s.data.toList) (hn : a + s.size ≤ (n + 7) / 8) : (bytesB N n).extract a (a + s.size) = s := by
  apply ByteArray.ext
  apply Array.ext'
  have h1 := putL_part N a s.size _ hn
  rw [part_text N a s h] at h1
  rw [← h1]
  unfold bytesB
  simp [List.extract]

theorem read_text (K C : Nat → Int) (V : Nat → Nat) (S : Nat → ByteArray) (k L : Nat) (hk : k < L) (h : K k % 3 = 2) :
    (bytesB (st K C V S L).1 (st K C V S L).2).extract (up8 (st K C V S k).2 / 8) (up8 (st K C V S k).2 / 8 + (S k).size) = S k ∧ up8 (st K C V S k).2 + 8 * (S k).size ≤ (st K C V S L).2 := by
  obtain ⟨d, rfl⟩ : ∃ d, L = (k + 1) + d := ⟨L - (k + 1), by omega⟩
  obtain ⟨h1, h2⟩ := st_low K C V S (k + 1) d
  have hl := st_lt K C V S k
  have e := st_text K C V S k h
  generalize (st K C V S (k + 1 + d)) = Z at *
  rw [e] at h1 h2
  have hm := up8_mod (st K C V S k).2
  have hu := up8_le (st K C V S k).2
  have hl2 := lt_up _ _ _ hl hu.1
  have h2' : up8 (st K C V S k).2 + 8 * (S k).size ≤ Z.2 := h2
  refine ⟨?_, h2'⟩
  have h3 : Z.1 % 2 ^ (up8 (st K C V S k).2 + 8 * (S k).size) = (st K C V S k).1 + 2 ^ up8 (st K C V S k).2 * getL (S k).data.toList := h1
  generalize up8 (st K C V S k).2 = P at *
  refine bytes_part Z.1 Z.2 (P / 8) (S k) ?_ (by omega)
  rw [p256, p256, show 8 * (P / 8) = P by omega]
  have h4 : Z.1 / 2 ^ P % 2 ^ (8 * (S k).size) = Z.1 % (2 ^ P * 2 ^ (8 * (S k).size)) / 2 ^ P := (Nat.mod_mul_right_div_self _ _ _).symm
  rw [h4, ← Nat.pow_add, h3, Nat.add_mul_div_left _ _ (Nat.two_pow_pos _), Nat.div_eq_of_lt hl2, Nat.zero_add]
end Go.Proofs.Ytlgnapapofgdfaa
