/- BitioBack: MATHEMATICS of a text's bits, one by one. -/
import Derived.Test.YtlgnapapofgdfaaBitQ
import Derived.Test.YtlgnapapofgdfaaBitG
namespace Go.Proofs.Ytlgnapapofgdfaa
set_option linter.unusedVariables false
open Go.RowKit
open Go.Proofs.Bit

/-- A row of bits as a number, the lowest first. -/
def numB : List Bool → Nat
  | [] => 0
  | b :: l => b.toNat + 2 * numB l
theorem numB_snoc (l : List Bool) (x : Bool) : numB (l ++ [x]) = numB l + 2 ^ l.length * x.toNat := by
  induction l with
  | nil => simp [numB]
  | cons b l ih =>
    simp only [List.cons_append, numB, List.length_cons, Nat.pow_succ]
    rw [ih, Nat.mul_add, ← Nat.mul_assoc, Nat.mul_comm (2 ^ l.length) 2, Nat.add_assoc]
theorem numB_lt (l : List Bool) : numB l < 2 ^ l.length := by
  induction l with
  | nil => exact Nat.one_pos
  | cons b l ih =>
    have : b.toNat ≤ 1 := Bool.toNat_le b
    simp only [numB, List.length_cons, Nat.pow_succ]
    omega
/-- The j-th bit of a text. -/
def tbit (s : ByteArray) (j : Nat) : Bool := decide (bitAt (getL s.data.toList) j = 1)
theorem tbit_nat (s : ByteArray) (j : Nat) : (tbit s j).toNat = bitAt (getL s.data.toList) j := by
  have h : bitAt (getL s.data.toList) j < 2 := Nat.mod_lt _ (by decide)
  unfold tbit
  by_cases h1 : bitAt (getL s.data.toList) j = 1
  · simp [h1]
  · have h0 : bitAt (getL s.data.toList) j = 0 := by omega
    simp [h0]
/-- The first k bits of a text. -/
def tbits (s : ByteArray) (k : Nat) : List Bool := (List.range k).map (tbit s)
theorem tbits_length (s : ByteArray) (k : Nat) : (tbits s k).length = k := by unfold tbits; simp
theorem tbits_succ (s : ByteArray) (k : Nat) : tbits s (k + 1) = tbits s k ++ [tbit s k] := by unfold tbits; rw [List.range_succ, List.map_append]; rfl
theorem tbits_pre (s : ByteArray) (k n : Nat) (h : k ≤ n) : tbits s k <+: tbits s n := by
  obtain ⟨d, rfl⟩ : ∃ d, n = k + d := ⟨n - k, by omega⟩
  clear h
  induction d with
  | zero => exact List.prefix_refl _
  | succ d ih => exact ih.trans ⟨[tbit s (k + d)], (tbits_succ s (k + d)).symm⟩
theorem num_tbits (s : ByteArray) (k : Nat) : numB (tbits s k) = getL s.data.toList % 2 ^ k := by
  induction k with
  | zero => simp [tbits, numB, Nat.mod_one]
  | succ k ih =>
    rw [tbits_succ, numB_snoc, ih, tbits_length, tbit_nat, Nat.pow_succ, Nat.mod_mul]
    rfl
theorem tbit_byte (s : ByteArray) (i r : Nat) (hi : i < s.size) (hr : r < 8) : (tbit s (8 * i + r)).toNat = s[i].toNat / 2 ^ r % 2 := by
  rw [tbit_nat]
  have h0 : i < s.data.toList.length := by simpa using hi
  have h1 := putL_get (getL s.data.toList) s.data.toList.length i h0
  have h2 : (s.data.toList[i]'h0) = UInt8.ofNat (getL s.data.toList / 256 ^ i % 256) := by
    rw [← h1]
    congr 1
    exact (put_get s.data.toList).symm
  have h3 : s[i] = s.data.toList[i]'h0 := by simp [ByteArray.getElem_eq_getElem_data]
  rw [h3, h2]
  have h4 : (UInt8.ofNat (getL s.data.toList / 256 ^ i % 256)).toNat = getL s.data.toList / 256 ^ i % 256 := by simp
  rw [h4]
  have h5 := part_of (getL s.data.toList / 256 ^ i) 1 r 1 (by omega)
  rw [Nat.pow_one, Nat.pow_one] at h5
  rw [h5]
  unfold bitAt
  rw [p256, Nat.div_div_eq_div_mul, ← Nat.pow_add]
theorem tbits_whole (s : ByteArray) : bytesB (numB (tbits s (8 * s.size))) (8 * s.size) = s := by
  rw [num_tbits, Nat.mod_eq_of_lt (getL_lt2 s)]
  apply ByteArray.ext
  apply Array.ext'
  unfold bytesB
  rw [show (8 * s.size + 7) / 8 = s.data.toList.length by simp; omega]
  exact put_get s.data.toList
end Go.Proofs.Ytlgnapapofgdfaa
