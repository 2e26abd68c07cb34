/- Plain mathematics of what a writer writes, and of reading it again. -/
import Derived.Test.YthblaceldoikeaaFieldV
namespace Go.Proofs.Ythblaceldoikeaa
set_option linter.unusedVariables false
open Go.RowKit
open Go.Proofs.Num
namespace Fld

/-- What is written of the i-th number, and the i-th text twice. -/
def piece (X : Nat → Nat) (D : Nat → Int) (T : Nat → ByteArray) (i : Nat) : List UInt8 := (putL (X i) (wideN (D i)) ++ (T i).data.toList) ++ (T i).data.toList
/-- .. of the first k of them. -/
def wrote (X : Nat → Nat) (D : Nat → Int) (T : Nat → ByteArray) (k : Nat) : List UInt8 := (List.range k).flatMap (piece X D T)

theorem wrote_succ (X : Nat → Nat) (D : Nat → Int) (T : Nat → ByteArray) (k : Nat) : wrote X D T (k + 1) = wrote X D T k ++ piece X D T k := by
  unfold wrote; rw [List.range_succ, List.flatMap_append]; simp
theorem piece_length (X : Nat → Nat) (D : Nat → Int) (T : Nat → ByteArray) (k : Nat) : (piece X D T k).length = wideN (D k) + 2 * (T k).size := by
  unfold piece
  simp only [List.length_append, putL_length, Array.length_toList]
  show _ + (T k).size + (T k).size = _
  omega
theorem wrote_length_succ (X : Nat → Nat) (D : Nat → Int) (T : Nat → ByteArray) (k : Nat) : (wrote X D T (k + 1)).length = (wrote X D T k).length + (wideN (D k) + 2 * (T k).size) := by
  rw [wrote_succ, List.length_append, piece_length]
theorem wrote_le (X : Nat → Nat) (D : Nat → Int) (T : Nat → ByteArray) (m k : Nat) (h : ∀ i, i < k → (T i).size ≤ m) : (wrote X D T k).length ≤ k * (8 + 2 * m) := by
  induction k with
  | zero => simp [wrote]
  | succ k ih =>
    have h1 := ih (fun i hi => h i (by omega))
    have h2 := h k (by omega)
    have h3 := wide_le (D k)
    have e : (k + 1) * (8 + 2 * m) = k * (8 + 2 * m) + (8 + 2 * m) := by rw [Nat.add_mul, Nat.one_mul]
    rw [wrote_length_succ, e]
    omega
theorem wrote_split (X : Nat → Nat) (D : Nat → Int) (T : Nat → ByteArray) (k n : Nat) (h : k < n) : ∃ r, wrote X D T n = wrote X D T k ++ (piece X D T k ++ r) := by
  induction n with
  | zero => omega
  | succ n ih =>
    by_cases e : k = n
    · subst e
      exact ⟨[], by rw [wrote_succ, List.append_nil]⟩
    · obtain ⟨r, hr⟩ := ih (by omega)
      exact ⟨r ++ piece X D T n, by rw [wrote_succ, hr]; simp [List.append_assoc]⟩

/-- The whole text. -/
def whole (X : Nat → Nat) (D : Nat → Int) (T : Nat → ByteArray) (n : Nat) : ByteArray := ⟨(wrote X D T n).toArray⟩
theorem whole_size (X : Nat → Nat) (D : Nat → Int) (T : Nat → ByteArray) (n : Nat) : (whole X D T n).size = (wrote X D T n).length := by
  unfold whole ByteArray.size; simp
theorem whole_list (X : Nat → Nat) (D : Nat → Int) (T : Nat → ByteArray) (n : Nat) : (whole X D T n).data.toList = wrote X D T n := by
  unfold whole; simp

theorem extract_list (s : ByteArray) (a b : Nat) : (s.extract a b).data.toList = (s.data.toList.drop a).take (b - a) := by
  simp [ByteArray.data_extract, List.extract_eq_take_drop]

theorem bytes_ext {a b : ByteArray} (h : a.data.toList = b.data.toList) : a = b := by
  apply ByteArray.ext
  exact Array.toList_inj.1 h

/-- The number that is read. -/
theorem back_num (X : Nat → Nat) (D : Nat → Int) (T : Nat → ByteArray) (k n : Nat) (h : k < n) :
    getI ((whole X D T n).extract (wrote X D T k).length (whole X D T n).size) (wideN (D k)) = ((X k % 256 ^ wideN (D k) : Nat) : Int) := by
  obtain ⟨r, hr⟩ := wrote_split X D T k n h
  unfold getI
  rw [extract_list, whole_list, whole_size, hr, List.drop_left]
  have e : (((piece X D T k ++ r)).take ((wrote X D T k ++ (piece X D T k ++ r)).length - (wrote X D T k).length)) = piece X D T k ++ r := by
    apply List.take_of_length_le
    simp only [List.length_append]; omega
  rw [e]
  have e2 : (piece X D T k ++ r).take (wideN (D k)) = putL (X k) (wideN (D k)) := by
    unfold piece
    rw [List.append_assoc, List.append_assoc]
    have hl := putL_length (X k) (wideN (D k))
    exact List.take_left' hl
  rw [e2, getL_put]

/-- The texts that are read. -/
theorem back_text (X : Nat → Nat) (D : Nat → Int) (T : Nat → ByteArray) (k n : Nat) (h : k < n) (j : Nat) (hj : j = 0 ∨ j = 1) :
    (whole X D T n).extract ((wrote X D T k).length + wideN (D k) + j * (T k).size) ((wrote X D T k).length + wideN (D k) + j * (T k).size + (T k).size) = T k := by
  obtain ⟨r, hr⟩ := wrote_split X D T k n h
  apply bytes_ext
  rw [extract_list, whole_list, hr]
  have hl := putL_length (X k) (wideN (D k))
  have ht : (T k).data.toList.length = (T k).size := by simp
  unfold piece
  rcases hj with rfl | rfl
  · rw [Nat.zero_mul, Nat.add_zero]
    have e : wrote X D T k ++ (putL (X k) (wideN (D k)) ++ (T k).data.toList ++ (T k).data.toList ++ r) = (wrote X D T k ++ putL (X k) (wideN (D k))) ++ ((T k).data.toList ++ ((T k).data.toList ++ r)) := by simp [List.append_assoc]
    rw [e, List.drop_left' (by rw [List.length_append, hl]), Nat.add_sub_cancel_left, List.take_left' ht]
  · rw [Nat.one_mul]
    have e : wrote X D T k ++ (putL (X k) (wideN (D k)) ++ (T k).data.toList ++ (T k).data.toList ++ r) = (wrote X D T k ++ putL (X k) (wideN (D k)) ++ (T k).data.toList) ++ ((T k).data.toList ++ r) := by simp [List.append_assoc]
    rw [e, List.drop_left' (by rw [List.length_append, List.length_append, hl, ht]), Nat.add_sub_cancel_left, List.take_left' ht]

theorem back_le (X : Nat → Nat) (D : Nat → Int) (T : Nat → ByteArray) (k n : Nat) (h : k < n) : (wrote X D T k).length + wideN (D k) + 2 * (T k).size ≤ (whole X D T n).size := by
  obtain ⟨r, hr⟩ := wrote_split X D T k n h
  rw [whole_size, hr]
  have := piece_length X D T k
  simp only [List.length_append]
  omega
end Fld
end Go.Proofs.Ythblaceldoikeaa
