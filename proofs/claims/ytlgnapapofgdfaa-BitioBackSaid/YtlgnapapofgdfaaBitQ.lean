/- WALKS over readers of bits: bits that are there. -/
import Derived.Test.YtlgnapapofgdfaaBitP
namespace Go.Proofs.Ytlgnapapofgdfaa
set_option linter.unusedVariables false
open Go.RowKit
open Go.Proofs.Bit
attribute [local go_sem ↓] Go.wp_at_zero Go.wp_at_succ

theorem part_of (X K m n : Nat) (h : m + n ≤ 8 * K) : X % 256 ^ K / 2 ^ m % 2 ^ n = X / 2 ^ m % 2 ^ n := by
  rw [p256, show 8 * K = m + (8 * K - m) by omega, Nat.pow_add, Nat.mod_mul_right_div_self, Nat.mod_mod_of_dvd _ (Nat.pow_dvd_pow 2 (by omega))]
theorem from_of (N p : Nat) : N / 256 ^ (p / 8) / 2 ^ (p % 8) = N / 2 ^ p := by
  rw [p256, Nat.div_div_eq_div_mul, ← Nat.pow_add, show 8 * (p / 8) + p % 8 = p by omega]
theorem low_succ (X k : Nat) : X % 256 ^ (k + 1) = X % 256 ^ k + 2 ^ (8 * k) * (X / 256 ^ k % 256) := by
  rw [← p256, Nat.pow_succ, Nat.mod_mul]
theorem or_add40 (a x k : Nat) (ha : a < 256 ^ k) (hk : k ≤ 4) (hx : x < 256) :
    bits .or .u64 (a : Int) (IntKind.u64.wrap ((x : Int) * 2 ^ (8 * k))) = ((a + 2 ^ (8 * k) * x : Nat) : Int) := by
  rw [p256] at ha
  have hp : 2 ^ (8 * k) ≤ 2 ^ 32 := Nat.pow_le_pow_right (by decide) (by omega)
  have e0 : ((x : Int) * 2 ^ (8 * k)) = ((x * 2 ^ (8 * k) : Nat) : Int) := by simp
  have hb : x * 2 ^ (8 * k) ≤ 255 * 2 ^ 32 := Nat.mul_le_mul (by omega) hp
  have e1 : IntKind.u64.wrap ((x : Int) * 2 ^ (8 * k)) = ((x * 2 ^ (8 * k) : Nat) : Int) := by rw [e0, IntKind.wrap_u64]; omega
  rw [e1, bits_or_u64_nat a (x * 2 ^ (8 * k)) (by omega) (by omega), Nat.or_comm, Nat.mul_comm, ← Nat.two_pow_add_eq_or_of_lt ha, Nat.add_comm]

theorem mask64w (v k : Nat) (hk : k ≤ 32) (hv : v < 18446744073709551616) : bits .and .u64 (v : Int) (IntKind.u64.wrap (IntKind.u64.wrap (2 ^ k) - 1)) = ((v % 2 ^ k : Nat) : Int) := by
  have hp : 2 ^ k ≤ 2 ^ 32 := Nat.pow_le_pow_right (by decide) hk
  have hp0 : 1 ≤ 2 ^ k := Nat.one_le_two_pow
  have e0 : ((2 : Int) ^ k) = ((2 ^ k : Nat) : Int) := by simp
  have e1 : IntKind.u64.wrap (IntKind.u64.wrap (2 ^ k) - 1) = ((2 ^ k - 1 : Nat) : Int) := by
    rw [e0, IntKind.wrap_u64, IntKind.wrap_u64]
    omega
  rw [e1, bits_and_u64_nat v (2 ^ k - 1) (by omega) (by omega), Nat.and_two_pow_sub_one_eq_mod]

set_option maxRecDepth 100000 in
set_option maxHeartbeats 1000000 in
theorem rbitsP (g : Nat) (s : ByteArray) (p n N : Nat) (w : World) (h : Rd w g s p) (hs : s.size ≤ 1048576) (hn : n ≤ 32) (hp : p + n ≤ 8 * s.size) (hN : ∀ i (h : i < s.size), (s[i]).toNat = N / 256 ^ i % 256) :
    Calls Try.prog 17 #[.pointer (some ⟨g, 0, none⟩), .int .i64 (n : Int)] w fun e w' => e = .returned (.int .u32 ((N / 2 ^ p % 2 ^ n : Nat) : Int)) ∧ Left w g s (p + n) w' := by
  have HR := hid h
  have HN := hid hN
  have hpp : p ≤ 8388608 := by omega
  clear h hN
  go_enter Try.func17, Try.ntmps17
  go_wp2_with fail
  refine (rfine g s p _ HR.out).mono ?_
  rintro e w' ⟨rfl, rfl⟩
  go_wp2_with fail
  refine (rleft g s p _ HR.out (by omega) hs).mono ?_
  rintro e w' ⟨nq0, rfl, rfl⟩
  have hc0 := HR.out.c0
  have hc1 := HR.out.c1
  have hf := HR.out.free 1
  go_wp2_with fail
  go_quiet (fail)
  go_wp2_with fail
  obtain ⟨F, hF⟩ : ∃ F, p / 8 = F := ⟨_, rfl⟩
  obtain ⟨T, hT⟩ : ∃ T, (p + n + 7) / 8 = T := ⟨_, rfl⟩
  rw [show (p : Int) / 8 = (F : Int) by omega, show ((p : Int) + (n : Int) + 8 - 1) / 8 = (T : Int) by omega]
  have hTs : T ≤ s.size := by omega
  have hFT : F ≤ T := by omega
  have hT5 : T ≤ F + 5 := by omega
  have HL := hid (show Left w g s p ((w.drewN nq0).drewN nq) from ⟨HR.out, (Only.drewN _ _ _).trans (Only.drewN _ _ _)⟩)
  generalize ((w.drewN nq0).drewN nq) = W at HL ⊢
  clear hc0 hc1 hf
  have hc0 := HL.out.rd.c0
  have hc1 := HL.out.rd.c1
  have hf := HL.out.rd.free 1
  go_loopw [5, 8] (fun v i wr => ∃ k m : Nat, F + k ≤ T ∧ i = .int .i64 ((F : Int) + (k : Int)) ∧ m = N / 256 ^ F % 256 ^ k ∧ v = .int .u64 (m : Int) ∧ wr = W) (fun v i _ => T - (intOf i).toNat)
  case atStart => exact ⟨0, 0, by omega, by go_num, by simp [Nat.mod_one], rfl, rfl⟩
  case round =>
    obtain ⟨k, m, hk, rfl, hm, rfl, rfl⟩ := hrel
    have HM := hid hm
    have hm40 : m < 1099511627776 := by
      have h1 : m < 256 ^ k := by rw [hm]; exact Nat.mod_lt _ (Nat.pow_pos (by decide))
      have h2 : 256 ^ k ≤ 256 ^ 5 := Nat.pow_le_pow_right (by decide) (by omega)
      omega
    have hmk : m < 256 ^ k := by rw [hm]; exact Nat.mod_lt _ (Nat.pow_pos (by decide))
    have HMK := hid hmk
    clear hm hmk
    by_cases hlt : F + k < T
    · go_wp2_with fail
      refine ⟨⟨k + 1, N / 256 ^ F % 256 ^ (k + 1), by omega, by go_num, rfl, val_int ?_, trivial⟩, by simp [intOf]; omega⟩
      have hx : N / 256 ^ (F + k) % 256 < 256 := Nat.mod_lt _ (by decide)
      rw [HN.out (F + k) (by omega), show IntKind.u64.wrap ((N / 256 ^ (F + k) % 256 : Nat) : Int) = ((N / 256 ^ (F + k) % 256 : Nat) : Int) by rw [IntKind.wrap_u64]; omega,
        or_add40 m _ k HMK.out (by omega) hx, low_succ, ← HM.out, Nat.div_div_eq_div_mul, ← Nat.pow_add]
    · go_wp2_with fail
      go_ret
      refine ⟨ret_int ?_, ?_⟩
      · have e1 : ((m : Int) / 2 ^ (p % 8)) = ((m / 2 ^ (p % 8) : Nat) : Int) := by simp
        have h1 : m / 2 ^ (p % 8) ≤ m := Nat.div_le_self _ _
        have h2 : 2 ^ n ≤ 2 ^ 32 := Nat.pow_le_pow_right (by decide) hn
        have h3 : m / 2 ^ (p % 8) % 2 ^ n < 2 ^ n := Nat.mod_lt _ (Nat.two_pow_pos _)
        have h4 : m / 2 ^ (p % 8) % 2 ^ n = N / 2 ^ p % 2 ^ n := by
          rw [HM.out, part_of _ _ _ _ (by omega), ← hF, from_of]
        rw [e1, mask64w _ _ hn (by omega), ← h4]
        omega
      · have hv : Value.int .i64 ((p : Int) + (n : Int)) = .int .i64 ((p + n : Nat) : Int) := val_int (by omega)
        rw [hv]
        exact ⟨HL.out.rd.go (p + n), HL.out.only.trans (Only.setCell g _ 1 _)⟩
end Go.Proofs.Ytlgnapapofgdfaa
