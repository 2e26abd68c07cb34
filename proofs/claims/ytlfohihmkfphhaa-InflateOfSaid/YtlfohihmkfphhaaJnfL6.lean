/- INFLATE: InflateOf's walk. -/
import Derived.Test.YtlfohihmkfphhaaJnfOf
import Derived.Test.YtlfohihmkfphhaaJnfZ
namespace Go.Proofs.Ytlfohihmkfphhaa
set_option linter.unusedVariables false
open Go.RowKit
open Go.Proofs.Huf
attribute [local go_sem ↓] Go.wp_at_zero Go.wp_at_succ
namespace Inf
open Huff
theorem ofV_ex (r : Res (List UInt8)) : ∃ (t : ByteArray) (n f : Int), ofV r = .tuple #[.string t, .int .i64 n, .int .i64 f] := by
  cases r with
  | bad e => exact ⟨_, _, _, rfl⟩
  | ok o q => exact ⟨_, _, _, rfl⟩
set_option maxRecDepth 100000 in
set_option maxHeartbeats 4000000 in
theorem ofL (s0 : ByteArray) (mI0 : Int) (w : World) (hs0 : s0.size ≤ 9223372036854775807) (hm0 : -9223372036854775808 ≤ mI0) (hm1 : mI0 ≤ 9223372036854775807) :
    Calls Try.prog 6 #[.string s0, .int .i64 mI0] w fun e w' => e = .returned (.bool true) ∧ Below w.heap.size w w' := by
  go_enter Try.func6, Try.ntmps6
  go_upto_region 1 with fail
  go_cut [0] (fun a wx => ∃ s : ByteArray, s.size ≤ 200 ∧ a = .string s ∧ wx = w)
  case first =>
    by_cases h : s0.size ≤ 200
    · have h' : (s0.size : Int) ≤ 200 := by omega
      go_wp2_with fail
      all_goals go_meet
      all_goals exact ⟨_, by first | (rw [ByteArray.size_extract]; omega) | omega, rfl, rfl⟩
    · have h' : ¬ (s0.size : Int) ≤ 200 := by omega
      have h5 : (200 : Int) ≤ (s0.size : Int) := by omega
      go_wp2_with fail
      all_goals go_meet
      all_goals exact ⟨_, by first | (rw [ByteArray.size_extract]; omega) | omega, rfl, rfl⟩
  case rest =>
    obtain ⟨s, hs, rfl, rfl⟩ := hcut
    go_upto_region 2 with fail
    go_cut [1] (fun a wx => ∃ mI : Int, mI ≤ 600 ∧ a = .int .i64 mI ∧ wx = wc)
    case first =>
      by_cases h : mI0 ≤ 600
      · go_wp2_with fail
        all_goals go_meet
        all_goals exact ⟨_, by omega, rfl, rfl⟩
      · have h5 : (600 : Int) ≤ mI0 := by omega
        go_wp2_with fail
        all_goals go_meet
        all_goals exact ⟨_, by omega, rfl, rfl⟩
    case rest =>
      obtain ⟨mI, hmI, rfl, hwc⟩ := hcut
      have hwc' := hwc.symm
      subst hwc'
      obtain ⟨m, hm⟩ : ∃ m : Nat, max mI 0 = (m : Int) := ⟨(max mI 0).toNat, by omega⟩
      have C1 := hid (fun W => ofW s mI m 2000 W (by omega) (by omega) (by omega))
      have C2 := hid (fun W => refOfW s mI m 2000 W (by omega) (by omega) hm (by omega))
      obtain ⟨t, n, f, hv⟩ := ofV_ex (infl s m 2000)
      rw [hv] at C1 C2
      clear hv hm hmI hm0 hm1 hs0 hs
      go_wp2_with fail
      refine (C1.out _).mono ?_
      rintro e w1 ⟨rfl, b1⟩
      have B1 := hid b1
      clear b1
      go_wp2_with fail
      refine (C2.out _).mono ?_
      rintro e w2 ⟨rfl, b2⟩
      have B2 := hid (B1.out.trans (b2.mono B1.out.size))
      clear b2
      go_wp2_with fail
      refine (lives _).mono ?_
      rintro e w3 ⟨rfl, b3⟩
      have B3 := hid (B2.out.trans (b3.mono B2.out.size))
      clear b3
      go_wp2_with fail
      go_ret
      exact ⟨rfl, B3.out⟩
end Inf
end Go.Proofs.Ytlfohihmkfphhaa

