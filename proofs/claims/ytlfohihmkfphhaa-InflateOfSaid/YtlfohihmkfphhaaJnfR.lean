/- INFLATE: walks over both readers of bits: so many bits, those that are missing, whole bytes. -/
import Derived.Test.YtlfohihmkfphhaaHrB
import Derived.Test.YtlfohihmkfphhaaJnfM
namespace Go.Proofs.Ytlfohihmkfphhaa
set_option linter.unusedVariables false
open Go.RowKit
open Go.Proofs.Huf
attribute [local go_sem ↓] Go.wp_at_zero Go.wp_at_succ
namespace Huff
def up8 (n : Nat) : Nat := (n + 7) / 8 * 8
theorem up8_div (n : Nat) : up8 n / 8 = (n + 7) / 8 := by unfold up8; omega
theorem up8_mod (n : Nat) : up8 n % 8 = 0 := by unfold up8; omega
theorem up8_le (n : Nat) : n ≤ up8 n ∧ up8 n ≤ n + 7 := by unfold up8; omega
set_option maxRecDepth 100000 in
set_option maxHeartbeats 400000 in
/-- Bits that are missing. -/
theorem rbitsB (g : Nat) (s : ByteArray) (p n : Nat) (w : World) (h : Rd w g s p) (hs : s.size ≤ 1048576) (hn : n ≤ 32) (hp : p ≤ 8 * s.size) (hb : ¬ p + n ≤ 8 * s.size) :
    Calls Try.prog 23 #[.pointer (some ⟨g, 0, none⟩), .int .i64 (n : Int)] w fun e w' => e = .returned (.int .u32 0) ∧ Bk w' g s p ∧ Only g w w' := by
  have HR := hid h
  obtain ⟨z, hz⟩ : ∃ z : Nat, (s.size : Int) * 8 - (p : Int) = (z : Int) := ⟨8 * s.size - p, by omega⟩
  have hleft : ∀ W, Rd W g s p → Calls Try.prog 48 #[.pointer (some ⟨g, 0, none⟩)] W fun e w' => ∃ n, e = .returned (.int .i64 (z : Int)) ∧ w' = W.drewN n := fun W hW =>
    (rleft g s p W hW hp hs).mono fun e w' ⟨n, h1, h2⟩ => ⟨n, by rw [h1, hz], h2⟩
  have HL := hid hleft
  have g1 : (z : Int) < (n : Int) := by omega
  have g2 : ¬ (32 : Int) < (n : Int) := by omega
  have g3 : ¬ (n : Int) < 0 := by omega
  clear h hp hz hleft hb hn
  go_enter Try.func23, Try.ntmps23
  go_wp2_with fail
  refine (rfine g s p _ HR.out).mono ?_
  rintro e w' ⟨rfl, rfl⟩
  go_wp2_with fail
  refine (HL.out _ HR.out).mono ?_
  rintro e w' ⟨nq0, rfl, rfl⟩
  have hc2 := HR.out.c2
  have hf := HR.out.free 2
  go_wp2_with fail
  go_ret
  exact ⟨rfl, heap_setCell_same _ g 2 _ 71 _ HR.out, (Only.drewN g w nq0).trans (Only.setCell g _ 2 _)⟩
set_option maxHeartbeats 400000 in
theorem rused (g : Nat) (s : ByteArray) (p : Nat) (w : World) (h : Rd w g s p) (hp : p ≤ 1000000000) :
    Calls Try.prog 41 #[.pointer (some ⟨g, 0, none⟩)] w fun e w' => e = .returned (.int .i64 (((p + 7) / 8 : Nat) : Int)) ∧ w = w' := by
  have hc1 := h.c1
  go_enter Try.func41, Try.ntmps41
  go_wp2_with fail
  go_ret
  exact ⟨ret_int (by omega), rfl⟩
set_option maxHeartbeats 400000 in
theorem ralignP (g : Nat) (s : ByteArray) (p : Nat) (w : World) (h : Rd w g s p) (hp : p ≤ 1000000000) :
    Calls Try.prog 79 #[.pointer (some ⟨g, 0, none⟩)] w fun e w' => e = .returned (.tuple #[]) ∧ Left w g s (up8 p) w' := by
  have HR := hid h
  have hf := h.free 1
  have e1 : IntKind.i64.wrap ((((p + 7) / 8 : Nat) : Int) * 8) = ((up8 p : Nat) : Int) := by rw [IntWalk.i64_in _ (by omega)]; unfold up8; omega
  clear h
  go_enter Try.func79, Try.ntmps79
  go_wp2_with fail
  refine (rfine g s p _ HR.out).mono ?_
  rintro e w' ⟨rfl, rfl⟩
  go_wp2_with fail
  refine (rused g s p _ HR.out hp).mono ?_
  rintro e w' ⟨rfl, rfl⟩
  have hc1 := HR.out.c1
  go_wp2_with fail
  go_returns
  refine ⟨rfl, ?_⟩
  have hv : Value.int .i64 (((p : Int) + 7) / 8 * 8) = .int .i64 ((up8 p : Nat) : Int) := val_int (by unfold up8; omega)
  rw [hv]
  exact ⟨HR.out.go (up8 p), Only.setCell g _ 1 _⟩
set_option maxRecDepth 100000 in
set_option maxHeartbeats 400000 in
theorem rtextP (g : Nat) (s : ByteArray) (p n : Nat) (w : World) (h : Rd w g s p) (hs : s.size ≤ 1048576) (hp : up8 p / 8 + n ≤ s.size) :
    Calls Try.prog 80 #[.pointer (some ⟨g, 0, none⟩), .int .i64 (n : Int)] w fun e w' => e = .returned (.string (s.extract (up8 p / 8) (up8 p / 8 + n))) ∧ Left w g s (up8 p + 8 * n) w' := by
  have HR := hid h
  have hu := up8_le p
  have hm := up8_mod p
  have hP : up8 p ≤ 8388608 := by omega
  obtain ⟨P, hPe⟩ : ∃ P, up8 p = P := ⟨_, rfl⟩
  rw [hPe] at hp hu hm hP
  have HP := hid hPe
  rw [hPe]
  clear h hPe
  go_enter Try.func80, Try.ntmps80
  go_wp2_with fail
  refine (rfine g s p _ HR.out).mono ?_
  rintro e w' ⟨rfl, rfl⟩
  go_wp2_with fail
  refine (ralignP g s p _ HR.out (by omega)).mono ?_
  rintro e w1 ⟨rfl, hl⟩
  rw [HP.out] at hl
  have HL := hid hl
  clear hl
  have hc0 := HL.out.rd.c0
  have hc1 := HL.out.rd.c1
  have hf := HL.out.rd.free 1
  go_wp2_with fail
  go_ret
  refine ⟨rfl, ?_⟩
  have hv : Value.int .i64 ((P : Int) + (n : Int) * 8) = .int .i64 ((P + 8 * n : Nat) : Int) := val_int (by omega)
  rw [hv]
  exact ⟨HL.out.rd.go (P + 8 * n), HL.out.only.trans (Only.setCell g _ 1 _)⟩
set_option maxRecDepth 100000 in
set_option maxHeartbeats 400000 in
/-- Bytes that are missing. -/
theorem rtextB (g : Nat) (s : ByteArray) (p n : Nat) (w : World) (h : Rd w g s p) (hs : s.size ≤ 1048576) (hp : p ≤ 8 * s.size) (hn : n ≤ 65535) (hb : ¬ up8 p / 8 + n ≤ s.size) :
    Calls Try.prog 80 #[.pointer (some ⟨g, 0, none⟩), .int .i64 (n : Int)] w fun e w' => e = .returned (.string ByteArray.empty) ∧ Bk w' g s (up8 p) ∧ Only g w w' := by
  have HR := hid h
  have hu := up8_le p
  have hm := up8_mod p
  have hP : up8 p ≤ 8388608 := by unfold up8; omega
  have hPs : up8 p ≤ 8 * s.size := by unfold up8; omega
  obtain ⟨P, hPe⟩ : ∃ P, up8 p = P := ⟨_, rfl⟩
  rw [hPe] at hb hu hm hP hPs
  have HP := hid hPe
  rw [hPe]
  obtain ⟨q, hq⟩ : ∃ q : Nat, P = 8 * q := ⟨P / 8, by omega⟩
  subst hq
  obtain ⟨z, hz⟩ : ∃ z : Nat, (s.size : Int) - (q : Int) = (z : Int) := ⟨s.size - q, by omega⟩
  have e0 : (((8 * q : Nat) : Int)).tdiv 8 = (q : Int) := by rw [Int.tdiv_eq_ediv_of_nonneg (by omega)]; omega
  have e1 : IntKind.i64.wrap ((s.size : Int) - (q : Int)) = (z : Int) := by rw [IntWalk.i64_in _ (by omega)]; exact hz
  have g1 : (z : Int) < (n : Int) := by omega
  have g3 : ¬ (n : Int) < 0 := by omega
  clear h hPe hb
  go_enter Try.func80, Try.ntmps80
  go_wp2_with fail
  refine (rfine g s p _ HR.out).mono ?_
  rintro e w' ⟨rfl, rfl⟩
  go_wp2_with fail
  refine (ralignP g s p _ HR.out (by omega)).mono ?_
  rintro e w1 ⟨rfl, hl⟩
  rw [HP.out] at hl
  have HL := hid hl
  clear hl
  have hc0 := HL.out.rd.c0
  have hc1 := HL.out.rd.c1
  have hc2 := HL.out.rd.c2
  have hf := HL.out.rd.free 2
  go_wp2_with fail
  go_ret
  exact ⟨rfl, heap_setCell_same _ g 2 _ 71 _ HL.out.rd, HL.out.only.trans (Only.setCell g _ 2 _)⟩
theorem bits_succ (X p i : Nat) : X / 2 ^ p % 2 ^ (i + 1) = X / 2 ^ p % 2 ^ i + 2 ^ i * bitN X (p + i) := by
  rw [Nat.pow_succ, Nat.mod_mul]
  unfold bitN
  rw [Nat.div_div_eq_div_mul, ← Nat.pow_add]
set_option maxRecDepth 100000 in
set_option maxHeartbeats 1000000 in
/-- The document's next bits. -/
theorem refBitsN (g : Nat) (s : ByteArray) (p n : Nat) (w : World) (h : Rf w g s p false) (hs : s.size ≤ 1048576) (hn : n ≤ 16) (hp : p + n ≤ 8 * s.size) :
    Calls Try.prog 24 #[.pointer (some ⟨g, 0, none⟩), .int .i64 (n : Int)] w fun e w' => e = .returned (.int .u32 ((numS s / 2 ^ p % 2 ^ n : Nat) : Int)) ∧ LeftF w g s (p + n) false w' := by
  have HR := hid h
  have hc0 := h.c0
  have hc1 := h.c1
  have hc2 := h.c2
  have hbit : ∀ (k : Nat) W, k < 8 * s.size → Calls Try.prog 49 #[.string s, .int .i64 (k : Int)] W fun e w' => e = .returned (.int .u32 ((bitN (numS s) k : Nat) : Int)) ∧ w' = W := fun k W hk => refBit s k W hs hk
  have HBT := hid hbit
  have HPN := hid hp
  clear h hbit
  obtain ⟨z, hz⟩ : ∃ z : Nat, 8 * (s.size : Int) - (p : Int) = (z : Int) := ⟨8 * s.size - p, by omega⟩
  have e1 : IntKind.i64.wrap (8 * (s.size : Int)) = 8 * (s.size : Int) := by rw [IntKind.wrap_i64]; omega
  have e2 : IntKind.i64.wrap (8 * (s.size : Int) - (p : Int)) = (z : Int) := by rw [IntKind.wrap_i64]; omega
  have g1 : decide ((z : Int) < (n : Int)) = false := by rw [decide_eq_false_iff_not]; omega
  have g1' : decide (z < n) = false := by rw [decide_eq_false_iff_not]; omega
  have g2 : decide ((32 : Int) < (n : Int)) = false := by rw [decide_eq_false_iff_not]; omega
  have g2' : decide (32 < n) = false := by rw [decide_eq_false_iff_not]; omega
  have g3 : decide ((n : Int) < 0) = false := by rw [decide_eq_false_iff_not]; omega
  go_enter Try.func24, Try.ntmps24
  go_upto_region 1 with fail
  go_quiet (fail)
  clear e1 e2 g1 g2 g3 g1' g2'
  go_wp2_with fail
  have HL := hid (show LeftF w g s p false (w.drewN nq) from ⟨HR.out, Only.drewN _ _ _⟩)
  generalize w.drewN nq = W0 at HL ⊢
  clear hc0 hc1 hc2 hz
  go_loopw [5, 6, 7] (fun v one i wr => ∃ k : Nat, k ≤ n ∧ i = .int .i64 (k : Int) ∧ v = .int .u64 ((numS s / 2 ^ p % 2 ^ k : Nat) : Int) ∧ one = .int .u64 ((2 ^ k : Nat) : Int) ∧ LeftF w g s (p + k) false wr) (fun _ _ i _ => n - (intOf i).toNat)
  case atStart => exact ⟨0, Nat.zero_le _, rfl, val_int (by simp [Nat.mod_one]), rfl, HL.out⟩
  case round =>
    obtain ⟨k, hk, rfl, rfl, rfl, hl⟩ := hrel
    have HW := hid hl
    have HS := hid (bits_succ (numS s) p k)
    have hlt2 : numS s / 2 ^ p % 2 ^ k < 2 ^ k := Nat.mod_lt _ (Nat.pow_pos (by omega))
    have hone : 2 ^ k ≤ 65536 := by
      have := Nat.pow_le_pow_right (show 0 < 2 by decide) (show k ≤ 16 by omega)
      simpa using this
    have hbl := bitN_lt (numS s) (p + k)
    clear hl
    by_cases hlt : k < n
    · have HB := hid (fun W => HBT.out (p + k) W (by have := HPN.out; omega))
      have HP2 := hid (show (2 : Nat) ^ (k + 1) = 2 * 2 ^ k by rw [Nat.pow_succ]; omega)
      generalize numS s / 2 ^ p % 2 ^ k = a at HS hlt2 ⊢
      generalize bitN (numS s) (p + k) = b at HS HB hbl
      generalize 2 ^ k = o at HS hone hlt2 HP2 ⊢
      obtain ⟨c, hc⟩ : ∃ c : Nat, o * b = c := ⟨_, rfl⟩
      have hcI : (o : Int) * (b : Int) = (c : Int) := by rw [← hc]; simp
      have hcl : c ≤ 65536 := by
        rw [← hc]
        have : b = 0 ∨ b = 1 := by omega
        rcases this with rfl | rfl <;> omega
      have HC := hid hc
      clear hc
      have hc0 := HW.out.rf.c0
      have hc1 := HW.out.rf.c1
      have e3 : IntKind.u64.wrap (b : Int) = (b : Int) := by rw [IntKind.wrap_u64]; omega
      have e4 : IntKind.u64.wrap (c : Int) = (c : Int) := by rw [IntKind.wrap_u64]; omega
      have e5 : IntKind.u64.wrap ((a : Int) + (c : Int)) = ((a + c : Nat) : Int) := by rw [IntKind.wrap_u64]; omega
      have hk16 : (k : Int) < 16 := by omega
      go_wp2_with fail
      go_quiet ((go_at_call 49; exact Calls.quiet_of_same (HB.out _)))
      have HD := hid (show LeftF w g s (p + k) false (wr.drewN nq) from ⟨HW.out.rf, HW.out.only.trans (Only.drewN _ _ _)⟩)
      generalize wr.drewN nq = W1 at HD ⊢
      clear hc0 hc1 e3 e4 e5
      have hc1 := HD.out.rf.c1
      have f1 := HD.out.rf.free 1
      have e6 : IntKind.u64.wrap (2 * (o : Int)) = ((2 * o : Nat) : Int) := by rw [IntKind.wrap_u64]; omega
      have e7 : IntKind.i64.wrap ((p : Int) + (k : Int) + 1) = ((p + (k + 1) : Nat) : Int) := by rw [IntWalk.i64_in _ (by have := HPN.out; omega)]; omega
      go_wp2_with fail
      go_roundw
      case rel => exact ⟨k + 1, by omega, by go_num, val_int (by have := HS.out; have := HC.out; omega), val_int (by have := HP2.out; omega), by
        have := HD.out.rf.go (p + (k + 1))
        have e8 : ((p + (k + 1) : Nat) : Int) = (p : Int) + (k : Int) + 1 := by omega
        rw [e8] at this
        exact ⟨by first | exact this | exact HD.out.rf.go (p + (k + 1)), HD.out.only.trans (Only.setCell g _ 1 _)⟩⟩
      case measure => simp [intOf]; omega
    · obtain rfl : k = n := by omega
      obtain ⟨a, ha⟩ : ∃ a, numS s / 2 ^ p % 2 ^ k = a := ⟨_, rfl⟩
      rw [ha] at hlt2 ⊢
      have HA := hid ha
      clear ha HS
      generalize 2 ^ k = o at hone hlt2 ⊢
      have e3 : IntKind.u32.wrap (a : Int) = (a : Int) := by rw [IntKind.wrap_u32]; omega
      go_wp2_with fail
      go_ret
      exact ⟨ret_int (by rw [HA.out]), HW.out⟩
set_option maxRecDepth 100000 in
set_option maxHeartbeats 1000000 in
theorem refBitsB (g : Nat) (s : ByteArray) (p n : Nat) (w : World) (h : Rf w g s p false) (hs : s.size ≤ 1048576) (hn : n ≤ 16) (hp : p ≤ 8 * s.size) (hb : ¬ p + n ≤ 8 * s.size) :
    Calls Try.prog 24 #[.pointer (some ⟨g, 0, none⟩), .int .i64 (n : Int)] w fun e w' => e = .returned (.int .u32 0) ∧ LeftF w g s p true w' := by
  have HR := hid h
  have hc0 := h.c0
  have hc1 := h.c1
  have hc2 := h.c2
  obtain ⟨z, hz⟩ : ∃ z : Nat, 8 * (s.size : Int) - (p : Int) = (z : Int) := ⟨8 * s.size - p, by omega⟩
  have e1 : IntKind.i64.wrap (8 * (s.size : Int)) = 8 * (s.size : Int) := by rw [IntKind.wrap_i64]; omega
  have e2 : IntKind.i64.wrap (8 * (s.size : Int) - (p : Int)) = (z : Int) := by rw [IntKind.wrap_i64]; omega
  have g1 : decide ((z : Int) < (n : Int)) = true := by rw [decide_eq_true_iff]; omega
  have g1' : decide (z < n) = true := by rw [decide_eq_true_iff]; omega
  have g2 : decide ((32 : Int) < (n : Int)) = false := by rw [decide_eq_false_iff_not]; omega
  have g2' : decide (32 < n) = false := by rw [decide_eq_false_iff_not]; omega
  have g3 : decide ((n : Int) < 0) = false := by rw [decide_eq_false_iff_not]; omega
  clear h hp hb
  go_enter Try.func24, Try.ntmps24
  go_upto_region 1 with fail
  go_quiet (fail)
  clear e1 e2 g1 hc0 hc1 hc2 g2 g3 g1' g2'
  have HL := hid (show LeftF w g s p false (w.drewN nq) from ⟨HR.out, Only.drewN _ _ _⟩)
  generalize w.drewN nq = W0 at HL ⊢
  have hc2 := HL.out.rf.c2
  have f2 := HL.out.rf.free 2
  go_wp2_with fail
  go_ret
  exact ⟨rfl, HL.out.rf.break, HL.out.only.trans (Only.setCell g _ 2 _)⟩
end Huff
end Go.Proofs.Ytlfohihmkfphhaa
