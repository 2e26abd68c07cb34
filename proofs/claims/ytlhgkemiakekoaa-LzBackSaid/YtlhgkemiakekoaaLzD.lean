/- LZ: the document's way of telling how far a text goes on; the same tokens. -/
import Derived.Test.YtlhgkemiakekoaaLzC
namespace Go.Proofs.Ytlhgkemiakekoaa
set_option linter.unusedVariables false
open Go.RowKit
attribute [local go_sem ↓] Go.wp_at_zero Go.wp_at_succ
namespace Lz
set_option maxRecDepth 100000 in
set_option maxHeartbeats 2000000 in
theorem refLong (s : ByteArray) (at' back : Int) (w : World) (hs : s.size ≤ 70000) (r0 : -9223372036854775808 ≤ at') (r1 : at' ≤ 9223372036854775807) :
    Calls Try.prog 13 #[.string s, .int .i64 at', .int .i64 back] w fun e w' => e = .returned (.int .i64 (LongI s at' back : Nat)) ∧ Below w.heap.size w w' := by
  by_cases h : 1 ≤ back ∧ back ≤ at' ∧ at' ≤ (s.size : Int)
  · have HL : Hid (LongI s at' back = longF s at'.toNat back.toNat 258 0) := hid (if_pos h)
    obtain ⟨h1, h2, h3⟩ := h
    rw [HL.out]
    clear HL
    obtain ⟨a, rfl⟩ := Int.eq_ofNat_of_zero_le (show 0 ≤ at' by omega)
    obtain ⟨k, rfl⟩ := Int.eq_ofNat_of_zero_le (show 0 ≤ back by omega)
    simp only [Int.toNat_natCast]
    have q0 : ¬ (a : Int) < 0 := by omega
    have q1 : ¬ (s.size : Int) < (a : Int) := by omega
    have q2 : ¬ (k : Int) < 1 := by omega
    have q3 : ¬ (a : Int) < (k : Int) := by omega
    go_enter Try.func13, Try.ntmps13
    go_upto_block 0 with fail
    go_wp2_with fail
    go_loopw [7] (fun i wr => ∃ n q : Nat, n ≤ 258 ∧ i = .int .i64 n ∧ longF s a k (258 - n) n = longF s a k 258 0 ∧ a + n ≤ s.size ∧ wr = w.drewN q) (fun i _ => 258 - (intOf i).toNat)
    case atStart => exact ⟨0, 0, Nat.zero_le _, rfl, rfl, by omega, rfl⟩
    case round =>
      obtain ⟨n, q, hn, rfl, hlf, han, rfl⟩ := hrel
      have HLF := hid hlf
      clear hlf q0 q1 q2 q3 r0 r1
      obtain ⟨E, hE⟩ : ∃ E : Nat, E = a + n := ⟨_, rfl⟩
      obtain ⟨D, hD⟩ : ∃ D : Nat, D = a + n - k := ⟨_, rfl⟩
      have w0 : IntKind.i64.wrap ((a : Int) + (n : Int)) = (E : Int) := by rw [IntWalk.i64_in _ (by omega)]; omega
      have w1 : IntKind.i64.wrap ((E : Int) - (k : Int)) = (D : Int) := by rw [IntWalk.i64_in _ (by omega)]; omega
      have HS := hid (longF_stop (s := s) (a := a) (k := k) hn)
      have HG := hid (longF_go (s := s) (a := a) (k := k) (n := n))
      rw [← hD, ← hE] at HS HG
      have HE := hid hE
      have HD := hid hD
      have hDE : D < E := by omega
      have hEs : E ≤ s.size := by omega
      clear hE hD
      by_cases p2 : E < s.size
      · have i1 : (E : Int) < (s.size : Int) := by omega
        by_cases p1 : n < 258
        · have d1 : (n : Int) < 258 := by omega
          have p4 : D < s.size := by omega
          have i2 : (D : Int) < (s.size : Int) := by omega
          have b1 := byteT_eq s E p2
          have b2 := byteT_eq s D p4
          by_cases p3 : byteT s E = byteT s D
          · have HG2 := hid (HG.out p1 p2 p3)
            rw [← p3] at b2
            clear p3
            generalize byteT s E = x at *
            go_upto_region 5 with fail
            go_quiet (fail)
            go_wp2_with fail
            go_roundw
            case rel => exact ⟨n + 1, _, by omega, by go_num, by rw [← HG2.out]; exact HLF.out, by have := HE.out; omega, rfl⟩
            case measure => simp [intOf]; omega
          · have HS2 := hid (HS.out (.inr (.inr p3)))
            have e1 : ((byteT s E : Int) == (byteT s D : Int)) = false := by rw [beq_eq_false_iff_ne]; omega
            have e1' : ((byteT s E : Int) != (byteT s D : Int)) = true := by rw [bne_iff_ne]; omega
            have e2 : (byteT s E == byteT s D) = false := by simpa using p3
            have e2' : (byteT s E != byteT s D) = true := by simpa using p3
            have e3 : decide (byteT s E = byteT s D) = false := decide_eq_false p3
            generalize byteT s E = x at *
            generalize byteT s D = y at *
            go_upto_region 5 with fail
            go_quiet (fail)
            go_wp2_with fail
            go_ret
            exact ⟨ret_int (by rw [← HLF.out, HS2.out]), below_drewN (below_drewN (Below.refl _ _) _) _⟩
        · have d1 : ¬ (n : Int) < 258 := by omega
          have HS2 := hid (HS.out (.inl (by omega)))
          go_wp2_with fail
          go_ret
          exact ⟨ret_int (by rw [← HLF.out, HS2.out]), below_drewN (Below.refl _ _) _⟩
      · have i1 : ¬ (E : Int) < (s.size : Int) := by omega
        have HS2 := hid (HS.out (.inr (.inl p2)))
        go_wp2_with fail
        go_ret
        exact ⟨ret_int (by rw [← HLF.out, HS2.out]), below_drewN (Below.refl _ _) _⟩
  · have HL : LongI s at' back = 0 := if_neg h
    rw [HL]
    by_cases q0 : at' < 0
    · go_enter Try.func13, Try.ntmps13
      go_wp2_with fail
      go_ret
      exact ⟨rfl, Below.refl _ _⟩
    · by_cases q1 : (s.size : Int) < at'
      · go_enter Try.func13, Try.ntmps13
        go_wp2_with fail
        go_ret
        exact ⟨rfl, Below.refl _ _⟩
      · by_cases q2 : back < 1
        · go_enter Try.func13, Try.ntmps13
          go_wp2_with fail
          go_ret
          exact ⟨rfl, Below.refl _ _⟩
        · have q3 : at' < back := by omega
          go_enter Try.func13, Try.ntmps13
          go_wp2_with fail
          go_ret
          exact ⟨rfl, Below.refl _ _⟩

set_option maxRecDepth 100000 in
set_option maxHeartbeats 2000000 in
theorem same (A : Option Addr) (b off n c : Nat) (A' : Option Addr) (b' off' c' : Nat) (x y z : Nat → Int) (w : World) (hn : n ≤ 1000000) (h : ToksAt w A b off n x y z) (h' : ToksAt w A' b' off' n x y z) :
    Calls Try.prog 14 #[.slice A n c, .slice A' n c'] w fun e w' => e = .returned (.bool true) ∧ Below w.heap.size w w' := by
  have H := hid h
  have H' := hid h'
  clear h h'
  go_enter Try.func14, Try.ntmps14
  go_upto_region 4 with fail
  go_loopw [13] (fun i wr => ∃ j q : Nat, j ≤ n ∧ i = .int .i64 j ∧ wr = w.drewN q) (fun i _ => n - (intOf i).toNat)
  case atStart => exact ⟨0, 0, Nat.zero_le _, rfl, rfl⟩
  case round =>
    obtain ⟨j, q, hj, rfl, rfl⟩ := hrel
    by_cases hlt : j < n
    · obtain rfl := H.out.ad (by omega)
      obtain rfl := H'.out.ad (by omega)
      obtain ⟨d0, d1, d2⟩ := H.out.at_ j hlt
      obtain ⟨e0, e1, e2⟩ := H'.out.at_ j hlt
      generalize x j = s at *
      generalize y j = p at *
      generalize z j = m at *
      have hji : (j : Int) < (n : Int) := by omega
      have hj0 : (0 : Int) ≤ (j : Int) := by omega
      go_upto_region 6 with fail
      go_quiet (fail)
      go_wp2_with fail
      go_roundw
      case rel => exact ⟨j + 1, _, by omega, by go_num, rfl⟩
      case measure => simp [intOf]; omega
    · go_wp2_with fail
      go_ret
      exact ⟨rfl, below_drewN (Below.refl _ _) _⟩
end Lz
end Go.Proofs.Ytlhgkemiakekoaa
