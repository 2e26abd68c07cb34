/- EndingReads: the walk of the document's reader of an end. -/
import Derived.Test.YthgjijjalfhhcaaEnB
namespace Go.Proofs.Ythgjijjalfhhcaa
set_option linter.unusedVariables false
open Go.RowKit
open Go.Proofs.Num
attribute [local go_sem ↓] Go.wp_at_zero Go.wp_at_succ
namespace Edg
open Fld

theorem size75 : (Try.prog.info? 75).map (·.size) = some 4 := by kernel_rfl

/-- Bytes as a list. -/
theorem getL_inj : ∀ (l m : List UInt8), l.length = m.length → getL l = getL m → l = m := by
  intro l
  induction l with
  | nil =>
    intro m h _
    exact (List.eq_nil_of_length_eq_zero h.symm).symm
  | cons c l ih =>
    intro m h hg
    cases m with
    | nil => simp at h
    | cons d m =>
      simp only [getL] at hg
      have h1 := UInt8.toNat_lt c
      have h2 := UInt8.toNat_lt d
      have e1 : c.toNat = d.toNat := by omega
      have e2 : getL l = getL m := by omega
      rw [UInt8.toNat_inj.1 e1, ih m (by simpa using h) e2]

theorem take_extract (t : ByteArray) (o n : Nat) (h : o + n ≤ t.size) : (t.extract o t.size).data.toList.take n = (t.extract o (o + n)).data.toList := by
  simp only [ByteArray.data_extract, Array.toList_extract, List.extract_eq_take_drop]
  rw [List.take_take, Nat.add_sub_cancel_left]
  congr 1
  omega
theorem G_eq (t : ByteArray) (o n : Nat) (h : o + n ≤ t.size) : G t o n = ((getL (t.extract o (o + n)).data.toList : Nat) : Int) := by
  unfold G getI
  rw [take_extract t o n h]
theorem list_len (t : ByteArray) (o n : Nat) (h : o + n ≤ t.size) : (t.extract o (o + n)).data.toList.length = n := by
  rw [← take_extract t o n h, List.length_take]
  have : (t.extract o t.size).data.toList.length = t.size - o := by
    simp [ByteArray.size_extract]
  omega

/-- Two rows of bytes are alike as their numbers are. -/
theorem same_iff (t : ByteArray) (o p n : Nat) (h : o + n ≤ t.size) (h2 : p + n ≤ t.size) : (t.extract o (o + n)).data.toList = (t.extract p (p + n)).data.toList ↔ G t o n = G t p n := by
  rw [G_eq t o n h, G_eq t p n h2]
  constructor
  · intro e; rw [e]
  · intro e
    exact getL_inj _ _ (by rw [list_len t o n h, list_len t p n h2]) (by exact_mod_cast e)
theorem split3 (t : ByteArray) (h : 8 ≤ t.size) : (t.extract 0 8).data.toList = (t.extract 0 (0 + 4)).data.toList ++ ((t.extract 4 (4 + 2)).data.toList ++ (t.extract 6 (6 + 2)).data.toList) := by
  simp only [ByteArray.data_extract, Array.toList_extract, List.extract_eq_take_drop]
  simp only [Nat.reduceAdd, Nat.reduceSub, List.drop_zero]
  generalize t.data.toList = l
  rw [show (8 : Nat) = 4 + 4 from rfl, List.take_add]
  congr 1
  rw [show (4 : Nat) = 2 + 2 from rfl, List.take_add, List.drop_drop]
/-- The first eight bytes. -/
theorem sign_iff (t : ByteArray) (h : 8 ≤ t.size) : (t.extract 0 8).data.toList = [80, 75, 5, 6, 0, 0, 0, 0] ↔ G t 0 4 = 101010256 ∧ G t 4 2 = 0 ∧ G t 6 2 = 0 := by
  rw [split3 t h, G_eq t 0 4 (by omega), G_eq t 4 2 (by omega), G_eq t 6 2 (by omega)]
  have l1 := list_len t 0 4 (by omega)
  have l2 := list_len t 4 2 (by omega)
  have l3 := list_len t 6 2 (by omega)
  generalize (t.extract 0 (0 + 4)).data.toList = a at l1 ⊢
  generalize (t.extract 4 (4 + 2)).data.toList = b at l2 ⊢
  generalize (t.extract 6 (6 + 2)).data.toList = c at l3 ⊢
  constructor
  · intro e
    have e1 : a = [80, 75, 5, 6] := by
      have := congrArg (List.take 4) e
      rw [List.take_left' l1] at this
      exact this
    have e2 : b ++ c = [0, 0, 0, 0] := by
      have := congrArg (List.drop 4) e
      rw [List.drop_left' l1] at this
      exact this
    have e3 : b = [0, 0] := by
      have := congrArg (List.take 2) e2
      rw [List.take_left' l2] at this
      exact this
    have e4 : c = [0, 0] := by
      have := congrArg (List.drop 2) e2
      rw [List.drop_left' l2] at this
      exact this
    subst e1 e3 e4
    exact ⟨by decide, by decide, by decide⟩
  · rintro ⟨e1, e2, e3⟩
    have f1 : a = [80, 75, 5, 6] := getL_inj _ _ (by simpa using l1) (by
      have : getL [80, 75, 5, 6] = 101010256 := by decide
      omega)
    have f2 : b = [0, 0] := getL_inj _ _ (by simpa using l2) (by
      have : getL [0, 0] = 0 := by decide
      omega)
    have f3 : c = [0, 0] := getL_inj _ _ (by simpa using l3) (by
      have : getL [0, 0] = 0 := by decide
      omega)
    rw [f1, f2, f3]
    rfl

set_option maxRecDepth 100000 in
set_option maxHeartbeats 1000000 in
theorem refAt (t : ByteArray) (o n : Nat) (w : World) (ht : t.size ≤ 9223372036854775807) (h : o + n ≤ t.size) (hn : n ≤ 4) :
    Calls Try.prog 83 #[.string t, .int .i64 (o : Int), .int .i64 (n : Int)] w fun e w' => e = .returned (.int .i64 (G t o n)) ∧ w = w' := by
  have hz : (t.extract o t.size).size = t.size - o := by simp [ByteArray.size_extract]
  have HG := hid (fun w => refGet_yes (t.extract o t.size) n w (by omega) (by omega) (by omega))
  have hb := getI_bd (t.extract o t.size) n
  have hp : 256 ^ n ≤ 256 ^ 4 := Nat.pow_le_pow_right (by decide) hn
  have h4 : (256 : Nat) ^ 4 = 4294967296 := by decide
  have h0 : 0 ≤ G t o n := hb.1
  have h1 : G t o n ≤ 4294967295 := by unfold G; omega
  have HE := hid (show getI (t.extract o t.size) n = G t o n from rfl)
  have ho : (0 : Int) ≤ (o : Int) := by omega
  have ho2 : (o : Int) ≤ (t.size : Int) := by omega
  clear hb hp h4 hz
  obtain ⟨v, hv⟩ : ∃ v, G t o n = v := ⟨_, rfl⟩
  rw [HE.out, hv] at HG
  rw [hv] at h0 h1 ⊢
  clear hv HE
  go_enter Try.func83, Try.ntmps83
  go_wp2_with fail
  refine (HG.out _).mono ?_
  rintro e w1 ⟨rfl, rfl⟩
  go_wp2_with fail
  go_ret
  exact ⟨rfl, rfl⟩
end Edg
end Go.Proofs.Ythgjijjalfhhcaa
