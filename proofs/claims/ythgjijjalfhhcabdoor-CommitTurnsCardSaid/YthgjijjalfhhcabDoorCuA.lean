/- CommitTurns: one byte that is another one makes no mark. -/
import Derived.Test.YthgjijjalfhhcabDoorCoS
import Derived.Test.YthgjijjalfhhcabDoorSumQ
namespace Go.Proofs.YthgjijjalfhhcabDoor
set_option linter.unusedVariables false
open Go.RowKit
open Go.Proofs.Num
namespace Com
open Fld

theorem mark_list2 (t l : Nat) : (markB t l).data.toList = bodyL t l ++ (putL (sumN t l) 4 ++ Z484) := by
  rw [mark_list]
  unfold bodyL
  simp only [List.append_assoc]
theorem sum_inj {t l t' l' : Nat} (h : putL (sumN t l) 4 = putL (sumN t' l') 4) : sumN t l = sumN t' l' := by
  have h1 := congrArg getL h
  rw [getL_put, getL_put] at h1
  have a := (sum_eq t l).2
  have b := (sum_eq t' l').2
  rw [Nat.mod_eq_of_lt (by omega), Nat.mod_eq_of_lt (by omega)] at h1
  exact h1
theorem feed_of {t l t' l' : Nat} (h : sumN t l = sumN t' l') : Crc.feedN 4294967295 (bodyL t l) = Crc.feedN 4294967295 (bodyL t' l') := by
  have a := (sum_eq t l).1
  have b := (sum_eq t' l').1
  rw [h, ← b] at a
  unfold Sm.ofI Sm.feedI at a
  have c : (4294967295 : Int).toNat = 4294967295 := rfl
  rw [c] at a
  omega
/-- One byte that is another one. -/
theorem other (t l p : Nat) (c : UInt8) (hp : p < 512) (hc : ∀ h : p < (markB t l).data.toList.length, c ≠ (markB t l).data.toList[p]) (t' l' : Nat) : ¬ (markB t l).data.toList.set p c = (markB t' l').data.toList := by
  intro e
  have hlen : (markB t l).data.toList.length = 512 := by rw [mark_list2, List.length_append, List.length_append, bodyL_length, putL_length, Z484_length]
  have hc' := hc (by omega)
  have g : (markB t l).data.toList[p]'(by omega) = (bodyL t l ++ (putL (sumN t l) 4 ++ Z484))[p]'(by rw [← mark_list2]; omega) := by
    congr 1
  rw [g] at hc'
  rw [mark_list2, mark_list2] at e
  by_cases h : p < 24
  · rw [List.set_append_left p c (by rw [bodyL_length]; exact h)] at e
    obtain ⟨e1, e2⟩ := List.append_inj e (by rw [List.length_set, bodyL_length, bodyL_length])
    obtain ⟨e3, _⟩ := List.append_inj e2 (by rw [putL_length, putL_length])
    have h1 := feed_of (sum_inj e3)
    rw [← e1] at h1
    refine Crc.feed_other 4294967295 (bodyL t l) p c (by decide) (by rw [bodyL_length]; exact h) ?_ h1.symm
    rw [List.getElem_append_left (by rw [bodyL_length]; exact h)] at hc'
    exact hc'
  · rw [List.set_append_right p c (by rw [bodyL_length]; omega)] at e
    obtain ⟨e1, e2⟩ := List.append_inj e (by rw [bodyL_length, bodyL_length])
    have h2 : sumN t' l' = sumN t l := by unfold sumN; rw [e1]
    rw [h2, bodyL_length] at e2
    rw [List.getElem_append_right (by rw [bodyL_length]; omega)] at hc'
    apply hc'
    have hq : p - 24 < (putL (sumN t l) 4 ++ Z484).length := by rw [List.length_append, putL_length, Z484_length]; omega
    have h3 := congrArg (fun L : List UInt8 => L[p - 24]?) e2
    simp only [List.getElem?_set_self hq] at h3
    rw [List.getElem?_eq_getElem hq] at h3
    have h4 := Option.some.inj h3
    rw [h4]
    congr 1
theorem later (t l : Nat) (h : t + 1 ≤ 1099511627776) : ¬ markB (t + 1) l = markB t l := by
  intro e
  have a := mark_turn (t + 1) l h
  have b := mark_turn t l (by omega)
  rw [e, b] at a
  omega
end Com
end Go.Proofs.YthgjijjalfhhcabDoor
