/- WALKS over bytes as numbers: the document's own, and the program's. -/
import Derived.Test.YthgjijjalfhhcabDoorEnP
import Derived.Laws.Bits64b
namespace Go.Proofs.YthgjijjalfhhcabDoor
set_option linter.unusedVariables false
open Go.RowKit
open Go.Proofs.Num
namespace Fld

theorem take_snoc (s : ByteArray) (k : Nat) (h : k < s.size) : s.data.toList.take (k + 1) = s.data.toList.take k ++ [s[k]] := by
  rw [List.take_succ_eq_append_getElem (by simpa using h)]; rfl

/-- The number of the first k bytes. -/
def getI (s : ByteArray) (k : Nat) : Int := (getL (s.data.toList.take k) : Nat)

theorem or_step (A c k : Nat) (hA : A < 256 ^ k) (hc : c < 256) (hk : k ≤ 7) :
    bits .or .u64 (A : Int) (IntKind.u64.wrap (IntKind.u64.wrap (c : Int) * 2 ^ (8 * k))) = ((A + 256 ^ k * c : Nat) : Int) := by
  have hp : 256 ^ (k + 1) ≤ 256 ^ 8 := Nat.pow_le_pow_right (by decide) (by omega)
  have hb : c * 256 ^ k < 256 ^ (k + 1) := by
    rw [Nat.pow_succ, Nat.mul_comm (256 ^ k)]
    exact Nat.mul_lt_mul_of_pos_right hc (Nat.pow_pos (by decide))
  have h8 : (256 : Nat) ^ 8 = 18446744073709551616 := by decide
  have e1 : IntKind.u64.wrap (c : Int) = (c : Int) := by rw [IntKind.wrap_u64]; omega
  have e2 : ((c : Int) * 2 ^ (8 * k)) = ((c * 256 ^ k : Nat) : Int) := by rw [← pow256]; simp
  have hA2 : 256 ^ k ≤ 256 ^ 8 := Nat.pow_le_pow_right (by decide) (by omega)
  rw [e1, e2, IntKind.wrap_u64]
  generalize hx : c * 256 ^ k = x at hb ⊢
  have e3 : ((x : Int) % 18446744073709551616) = (x : Int) := by omega
  rw [e3, bits_or_u64_nat A x (by omega) (by omega), Nat.or_comm]
  have hx2 : x = 2 ^ (8 * k) * c := by rw [← hx, pow256, Nat.mul_comm]
  rw [hx2, ← Nat.two_pow_add_eq_or_of_lt (by rw [pow256]; exact hA), pow256, Nat.add_comm]

theorem getI_step (s : ByteArray) (k : Nat) (h : k < s.size) (hk : k ≤ 7) :
    bits .or .u64 (getI s k) (IntKind.u64.wrap (IntKind.u64.wrap (s[k].toNat : Int) * 2 ^ (8 * k))) = getI s (k + 1) := by
  have hl : (s.data.toList.take k).length = k := by rw [List.length_take]; simp; omega
  have hlt := getL_lt (s.data.toList.take k)
  rw [hl] at hlt
  unfold getI
  rw [or_step _ _ _ hlt (UInt8.toNat_lt _) hk, take_snoc s k h, getL_snoc, hl]

set_option maxRecDepth 100000 in
set_option maxHeartbeats 400000 in
theorem get_yes (s : ByteArray) (N : Nat) (w : World) (hs : s.size ≤ 9223372036854775807) (h8 : N ≤ 8) (hN : N ≤ s.size) :
    Calls Tryd.prog 40 #[.string s, .int .i64 (N : Int)] w fun e w' => e = .returned (.tuple #[.int .u64 (getI s N), .bool true]) ∧ w = w' := by
  go_enter Tryd.func40, Tryd.ntmps40
  go_wp2_with fail
  go_loop [6, 7, 21] (fun x _ i => ∃ k : Nat, k ≤ N ∧ i = .int .i64 k ∧ x = .int .u64 (getI s k)) (fun _ _ i => N - (intOf i).toNat)
  case atStart => exact ⟨0, by omega, rfl, val_int rfl⟩
  case round =>
    obtain ⟨k, hk, rfl, rfl⟩ := hrel
    by_cases hlt : k < N
    · have hks : k < s.size := by omega
      have HG := hid (getI_step s k hks (by omega))
      go_wp2_with fail
      go_round
      case rel => exact ⟨k + 1, by omega, by go_num, val_int HG.out⟩
      case measure => simp [intOf]; omega
    · obtain rfl : k = N := by omega
      go_wp2_with fail
      go_ret2
      exact ⟨rfl, rfl⟩

set_option maxRecDepth 100000 in
set_option maxHeartbeats 400000 in
theorem get_no (s : ByteArray) (wide : Int) (w : World) (hs : s.size ≤ 9223372036854775807) (h : wide < 0 ∨ 8 < wide ∨ (s.size : Int) < wide) (hw0 : -9223372036854775808 ≤ wide) (hw1 : wide ≤ 9223372036854775807) :
    Calls Tryd.prog 40 #[.string s, .int .i64 wide] w fun e w' => e = .returned (.tuple #[.int .u64 0, .bool false]) ∧ w = w' := by
  by_cases a : wide < 0
  · clear h
    go_enter Tryd.func40, Tryd.ntmps40
    go_wp2_with fail
    go_ret2
    exact ⟨rfl, rfl⟩
  · by_cases b : 8 < wide
    · clear h
      go_enter Tryd.func40, Tryd.ntmps40
      go_wp2_with fail
      go_ret2
      exact ⟨rfl, rfl⟩
    · have c : (s.size : Int) < wide := by omega
      clear h
      go_enter Tryd.func40, Tryd.ntmps40
      go_wp2_with fail
      go_ret2
      exact ⟨rfl, rfl⟩

/-- The number of the bytes from i on, of the first N. -/
def hiI (s : ByteArray) (N i : Nat) : Int := (getL ((s.data.toList.take N).drop i) : Nat)

theorem hiI_step (s : ByteArray) (N i : Nat) (h : i < s.size) (hi : i < N) : 256 * hiI s N (i + 1) + (s[i].toNat : Int) = hiI s N i := by
  unfold hiI
  have hl : i < (s.data.toList.take N).length := by rw [List.length_take]; simp; omega
  have e : (s.data.toList.take N).drop i = s[i] :: (s.data.toList.take N).drop (i + 1) := by
    rw [List.drop_eq_getElem_cons hl]
    congr 1
    rw [List.getElem_take]; rfl
  rw [e]
  simp only [getL]
  omega
theorem hiI_end (s : ByteArray) (N : Nat) : hiI s N N = 0 := by
  unfold hiI
  rw [List.drop_eq_nil_of_le (by rw [List.length_take]; omega)]; rfl
theorem hiI_all (s : ByteArray) (N : Nat) : hiI s N 0 = getI s N := by
  unfold hiI getI; rw [List.drop_zero]
theorem hiI_bd (s : ByteArray) (N i : Nat) (h8 : N ≤ 8) (hi : i + 1 ≤ N) : 0 ≤ hiI s N (i + 1) ∧ hiI s N (i + 1) < 72057594037927936 := by
  have h := getL_lt ((s.data.toList.take N).drop (i + 1))
  have hl : ((s.data.toList.take N).drop (i + 1)).length ≤ 7 := by rw [List.length_drop, List.length_take]; omega
  have hp : 256 ^ ((s.data.toList.take N).drop (i + 1)).length ≤ 256 ^ 7 := Nat.pow_le_pow_right (by decide) hl
  have h7 : (256 : Nat) ^ 7 = 72057594037927936 := by decide
  unfold hiI
  omega
end Fld
end Go.Proofs.YthgjijjalfhhcabDoor
