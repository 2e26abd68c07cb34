/- CommitWrites: what a sector that is read as a mark must be. -/
import Derived.Test.YthgjijjalfhhcabDoorCoJ
namespace Go.Proofs.YthgjijjalfhhcabDoor
set_option linter.unusedVariables false
open Go.RowKit
open Go.Proofs.Num
namespace Com
open Fld

theorem put_get (l : List UInt8) : putL (getL l) l.length = l := by
  induction l with
  | nil => rfl
  | cons c l ih =>
    have := UInt8.toNat_lt c
    simp only [List.length_cons]
    rw [putL_cons]
    have e1 : getL (c :: l) % 256 = c.toNat := by simp only [getL]; omega
    have e2 : getL (c :: l) / 256 = getL l := by simp only [getL]; omega
    rw [e1, e2, ih]
    congr 1
    simp
theorem dropWhile_nil {l : List UInt8} (h : l.dropWhile (· == 0) = []) : l = List.replicate l.length 0 := by
  induction l with
  | nil => rfl
  | cons b r ih =>
    by_cases hb : b = 0
    · subst hb
      have h1 : r.dropWhile (· == 0) = [] := by simpa using h
      have h2 := ih h1
      rw [List.length_cons, List.replicate_succ, ← h2]
    · simp [hb] at h
theorem dropWhile_head {l : List UInt8} {b : UInt8} {r : List UInt8} (h : l.dropWhile (· == 0) = b :: r) : b ≠ 0 := by
  have h1 := List.head?_dropWhile_not (fun x : UInt8 => x == 0) l
  rw [h] at h1
  simpa using h1
theorem trim_nil {l : List UInt8} (h : Lib.trimB l 0 = []) : l = List.replicate l.length 0 := by
  unfold Lib.trimB Lib.trimLeftB at h
  have h1 := dropWhile_nil h
  unfold Lib.trimRightB at h1
  cases hd : l.reverse.dropWhile (· == 0) with
  | nil =>
    have h2 := dropWhile_nil hd
    have h3 : l.reverse.reverse = (List.replicate l.reverse.length 0).reverse := by rw [← h2]
    rw [List.reverse_reverse, List.reverse_replicate, List.length_reverse] at h3
    exact h3
  | cons b r =>
    exfalso
    have h2 := dropWhile_head hd
    rw [hd] at h1
    have h3 : b ∈ (b :: r).reverse := by simp
    rw [h1] at h3
    exact h2 (List.eq_of_mem_replicate h3)

/-- A sector is its parts. -/
theorem sector_parts (s : ByteArray) (hz : s.size = 512) (t l : Nat) (h0 : s.extract 0 (0 + 8) = magicB) (h1 : getI (s.extract 8 s.size) 8 = (t : Int)) (h2 : getI (s.extract 16 s.size) 8 = (l : Int)) (h3 : getI (s.extract 24 s.size) 4 = (sumN t l : Int))
    (h4 : (s.extract 28 (28 + 484)).data.toList = List.replicate 484 0) : s = markB t l := by
  apply ByteArray.ext
  apply Array.ext'
  rw [mark_list]
  generalize hL : s.data.toList = L
  have hlen : L.length = 512 := by rw [← hL]; simpa using hz
  have g0 : L.take 8 = magicB.data.toList := by
    have := congrArg (fun b : ByteArray => b.data.toList) h0
    simp only [ext_list, hL] at this
    simpa using this
  have key : ∀ (p k n : Nat), p + k ≤ 512 → getI (s.extract p s.size) k = (n : Int) → (L.drop p).take k = putL n k := by
    intro p k n hp h
    unfold getI at h
    rw [ext_list, hL, hz, List.take_take] at h
    have hk : min k (512 - p) = k := by omega
    rw [hk] at h
    have h5 := put_get ((L.drop p).take k)
    have h6 : ((L.drop p).take k).length = k := by rw [List.length_take, List.length_drop]; omega
    rw [h6] at h5
    have h7 : getL ((L.drop p).take k) = n := by exact_mod_cast h
    rw [h7] at h5
    exact h5.symm
  have g1 := key 8 8 t (by omega) h1
  have g2 := key 16 8 l (by omega) h2
  have g3 := key 24 4 (sumN t l) (by omega) h3
  have g4 : L.drop 28 = Z484 := by
    rw [ext_list, hL] at h4
    rw [List.take_of_length_le (by rw [List.length_drop]; omega)] at h4
    exact h4
  have e0 : L = L.take 8 ++ ((L.drop 8).take 8 ++ ((L.drop 16).take 8 ++ ((L.drop 24).take 4 ++ L.drop 28))) := by
    have a1 : L.drop 24 = (L.drop 24).take 4 ++ L.drop 28 := by
      have := (List.take_append_drop 4 (L.drop 24)).symm
      rw [List.drop_drop] at this
      exact this
    have a2 : L.drop 16 = (L.drop 16).take 8 ++ L.drop 24 := by
      have := (List.take_append_drop 8 (L.drop 16)).symm
      rw [List.drop_drop] at this
      exact this
    have a3 : L.drop 8 = (L.drop 8).take 8 ++ L.drop 16 := by
      have := (List.take_append_drop 8 (L.drop 8)).symm
      rw [List.drop_drop] at this
      exact this
    rw [← a1, ← a2, ← a3, List.take_append_drop]
  rw [e0, g0, g1, g2, g3, g4]

theorem neq44_no (m : ByteArray) (t l s s' : Int) (w : World) (h : ¬ (m = magicB ∧ s = s')) : (binOp BinOp.neq 43 (.agg #[.string m, .int .i64 t, .int .i64 l, .int .u32 s]) (sealV t l s')).run Tryd.prog w = .ok (.bool true) w := by
  have hm : m.toList = magicB.toList ↔ m = magicB := by
    constructor
    · intro e
      rw [ByteArray.toList_eq, ByteArray.toList_eq] at e
      exact ByteArray.ext (Array.ext' e)
    · intro e; rw [e]
  by_cases h1 : m.toList = magicB.toList
  · have h2 : ¬ s = s' := fun e => h ⟨hm.1 h1, e⟩
    simp [go_sem, h1, h2]
  · have h2 : ¬ m.toList = [83, 87, 73, 78, 71, 76, 69, 49] := fun e => h1 (by rw [e, ByteArray.toList_eq])
    simp [go_sem]
    exact fun e => absurd e h2
end Com
end Go.Proofs.YthgjijjalfhhcabDoor
