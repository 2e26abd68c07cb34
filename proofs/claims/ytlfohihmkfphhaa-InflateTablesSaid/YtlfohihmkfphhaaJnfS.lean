/- INFLATE: walks over the document's reader: whole bytes. -/
import Derived.Test.YtlfohihmkfphhaaJnfR
import Derived.Deep.OwnRows
import Derived.LoopNIn
import Derived.LoopIn
namespace Go.Proofs.Ytlfohihmkfphhaa
set_option linter.unusedVariables false
open Go.RowKit
open Go.Proofs.Huf
attribute [local go_sem ↓] Go.wp_at_zero Go.wp_at_succ
namespace Huff
theorem up8_next {p : Nat} (h : p % 8 ≠ 0) : up8 (p + 1) = up8 p := by unfold up8; omega
theorem up8_same {p : Nat} (h : p % 8 = 0) : up8 p = p := by unfold up8; omega
set_option maxRecDepth 100000 in
set_option maxHeartbeats 1000000 in
theorem refAlign (g : Nat) (s : ByteArray) (p : Nat) (w : World) (h : Rf w g s p false) (hp : p ≤ 10000000) :
    Calls Try.prog 66 #[.pointer (some ⟨g, 0, none⟩)] w fun e w' => e = .returned (.tuple #[]) ∧ LeftF w g s (up8 p) false w' := by
  have HR := hid h
  have HP := hid hp
  have hu := up8_le p
  have HU := hid (show ∀ i, i % 8 = 0 → p ≤ i → i ≤ up8 p → i = up8 p by intro i h1 h2 h3; unfold up8 at h3 ⊢; omega)
  have HU2 := hid (show ∀ i, ¬ i % 8 = 0 → i ≤ up8 p → i + 1 ≤ up8 p by intro i h1 h3; unfold up8 at h3 ⊢; omega)
  generalize up8 p = u at *
  clear h
  go_enter Try.func66, Try.ntmps66
  go_wp2_with fail
  go_loopg [] (u - p) (fun gk wr => ∃ i : Nat, gk = u - i ∧ p ≤ i ∧ i ≤ u ∧ LeftF w g s i false wr)
  case atStart => exact ⟨p, rfl, Nat.le_refl _, hu.1, HR.out, Only.refl _ _⟩
  case round =>
    obtain ⟨i, rfl, hni, hiu, hl⟩ := hrel
    have HL := hid hl
    have c1 := hl.rf.c1
    have c2 := hl.rf.c2
    have f1 := hl.rf.free 1
    clear hl
    by_cases h8 : i % 8 = 0
    · have e := HU.out i h8 hni hiu
      subst e
      have h8' : ((i : Int) % 8) = 0 := by omega
      clear HU HU2
      go_wp2_with fail
      go_returns
      exact ⟨rfl, HL.out⟩
    · have hiu2 := HU2.out i h8 hiu
      have h8' : ¬ ((i : Int) % 8) = 0 := by omega
      have e7 : IntKind.i64.wrap ((i : Int) + 1) = ((i + 1 : Nat) : Int) := by rw [IntWalk.i64_in _ (by have := HP.out; omega)]; omega
      clear HU HU2
      go_wp2_with fail
      go_roundg (u - (i + 1))
      case measure => omega
      case rel => exact ⟨i + 1, rfl, by omega, hiu2, HL.out.rf.go (i + 1), HL.out.only.trans (Only.setCell g _ 1 _)⟩
set_option maxRecDepth 100000 in
set_option maxHeartbeats 1000000 in
theorem refTextP (g : Nat) (s : ByteArray) (p n : Nat) (w : World) (h : Rf w g s p false) (hs : s.size ≤ 1048576) (hp : up8 p / 8 + n ≤ s.size) :
    Calls Try.prog 67 #[.pointer (some ⟨g, 0, none⟩), .int .i64 (n : Int)] w fun e w' => e = .returned (.string (s.extract (up8 p / 8) (up8 p / 8 + n))) ∧ LeftF w g s (up8 p + 8 * n) false w' := by
  have HR := hid h
  have hu := up8_le p
  have hm := up8_mod p
  have hP : up8 p ≤ 8388608 := by omega
  have HA := hid (refAlign g s p w h (by omega))
  obtain ⟨P, hPe⟩ : ∃ P, up8 p = P := ⟨_, rfl⟩
  rw [hPe] at hp hu hm hP
  rw [hPe] at HA
  rw [hPe]
  obtain ⟨q, hq⟩ : ∃ q : Nat, P = 8 * q := ⟨P / 8, by omega⟩
  subst hq
  have hq2 : 8 * q / 8 = q := by omega
  rw [hq2] at hp ⊢
  obtain ⟨z, hz⟩ : ∃ z : Nat, (s.size : Int) - (q : Int) = (z : Int) := ⟨s.size - q, by omega⟩
  have e0 : (((8 * q : Nat) : Int)).tdiv 8 = (q : Int) := by rw [Int.tdiv_eq_ediv_of_nonneg (by omega)]; omega
  have e0' : (8 * (q : Int)).tdiv 8 = (q : Int) := by rw [Int.tdiv_eq_ediv_of_nonneg (by omega)]; omega
  have e1 : IntKind.i64.wrap ((s.size : Int) - (q : Int)) = (z : Int) := by rw [IntWalk.i64_in _ (by omega)]; exact hz
  have e2 : IntKind.i64.wrap ((q : Int) + (n : Int)) = ((q + n : Nat) : Int) := by rw [IntWalk.i64_in _ (by omega)]; omega
  have e3 : IntKind.i64.wrap (8 * (n : Int)) = 8 * (n : Int) := IntWalk.i64_in _ (by omega)
  have e4 : IntKind.i64.wrap (8 * (q : Int) + 8 * (n : Int)) = ((8 * q + 8 * n : Nat) : Int) := by rw [IntWalk.i64_in _ (by omega)]; omega
  have g1 : decide ((z : Int) < (n : Int)) = false := by rw [decide_eq_false_iff_not]; omega
  have g1' : decide (z < n) = false := by rw [decide_eq_false_iff_not]; omega
  have g3 : decide ((n : Int) < 0) = false := by rw [decide_eq_false_iff_not]; omega
  clear h hPe
  go_enter Try.func67, Try.ntmps67
  go_wp2_with fail
  refine HA.out.mono ?_
  rintro e w1 ⟨rfl, hl⟩
  have HL := hid hl
  have hc0 := hl.rf.c0
  have hc1 := hl.rf.c1
  have hc2 := hl.rf.c2
  clear hl HA
  go_upto_region 2 with fail
  go_quiet (fail)
  have HL2 := hid (show LeftF w g s (8 * q) false (w1.drewN nq) from ⟨HL.out.rf, HL.out.only.trans (Only.drewN _ _ _)⟩)
  generalize w1.drewN nq = W1 at HL2 ⊢
  clear hc0 hc1 hc2 g1 g1' g3
  have hc0 := HL2.out.rf.c0
  have hc1 := HL2.out.rf.c1
  go_upto_region 5 with fail
  go_quiet (fail)
  have HL3 := hid (show LeftF w g s (8 * q) false (W1.drewN nq) from ⟨HL2.out.rf, HL2.out.only.trans (Only.drewN _ _ _)⟩)
  generalize W1.drewN nq = W2 at HL3 ⊢
  clear hc0 hc1
  have hc1 := HL3.out.rf.c1
  have f1 := HL3.out.rf.free 1
  go_wp2_with fail
  go_ret
  exact ⟨rfl, HL3.out.rf.go (8 * q + 8 * n), HL3.out.only.trans (Only.setCell g _ 1 _)⟩
set_option maxRecDepth 100000 in
set_option maxHeartbeats 1000000 in
theorem refTextB (g : Nat) (s : ByteArray) (p n : Nat) (w : World) (h : Rf w g s p false) (hs : s.size ≤ 1048576) (hp : p ≤ 8 * s.size) (hn : n ≤ 65535) (hb : ¬ up8 p / 8 + n ≤ s.size) :
    Calls Try.prog 67 #[.pointer (some ⟨g, 0, none⟩), .int .i64 (n : Int)] w fun e w' => e = .returned (.string ByteArray.empty) ∧ LeftF w g s (up8 p) true w' := by
  have HR := hid h
  have hu := up8_le p
  have hm := up8_mod p
  have hP : up8 p ≤ 8388608 := by unfold up8; omega
  have hPs : up8 p ≤ 8 * s.size := by unfold up8; omega
  have HA := hid (refAlign g s p w h (by omega))
  obtain ⟨P, hPe⟩ : ∃ P, up8 p = P := ⟨_, rfl⟩
  rw [hPe] at hb hu hm hP hPs
  rw [hPe] at HA
  rw [hPe]
  obtain ⟨q, hq⟩ : ∃ q : Nat, P = 8 * q := ⟨P / 8, by omega⟩
  subst hq
  have hq2 : 8 * q / 8 = q := by omega
  rw [hq2] at hb
  obtain ⟨z, hz⟩ : ∃ z : Nat, (s.size : Int) - (q : Int) = (z : Int) := ⟨s.size - q, by omega⟩
  have e0 : (((8 * q : Nat) : Int)).tdiv 8 = (q : Int) := by rw [Int.tdiv_eq_ediv_of_nonneg (by omega)]; omega
  have e0' : (8 * (q : Int)).tdiv 8 = (q : Int) := by rw [Int.tdiv_eq_ediv_of_nonneg (by omega)]; omega
  have e1 : IntKind.i64.wrap ((s.size : Int) - (q : Int)) = (z : Int) := by rw [IntWalk.i64_in _ (by omega)]; exact hz
  have g1 : decide ((z : Int) < (n : Int)) = true := by rw [decide_eq_true_iff]; omega
  have g1' : decide (z < n) = true := by rw [decide_eq_true_iff]; omega
  have g3 : decide ((n : Int) < 0) = false := by rw [decide_eq_false_iff_not]; omega
  clear h hPe
  go_enter Try.func67, Try.ntmps67
  go_wp2_with fail
  refine HA.out.mono ?_
  rintro e w1 ⟨rfl, hl⟩
  have HL := hid hl
  have hc0 := hl.rf.c0
  have hc1 := hl.rf.c1
  have hc2 := hl.rf.c2
  clear hl HA
  go_upto_region 2 with fail
  go_quiet (fail)
  have HL2 := hid (show LeftF w g s (8 * q) false (w1.drewN nq) from ⟨HL.out.rf, HL.out.only.trans (Only.drewN _ _ _)⟩)
  generalize w1.drewN nq = W1 at HL2 ⊢
  clear hc0 hc1 hc2 g1 g1' g3
  have hc2 := HL2.out.rf.c2
  have f2 := HL2.out.rf.free 2
  go_wp2_with fail
  go_ret
  exact ⟨rfl, HL2.out.rf.break, HL2.out.only.trans (Only.setCell g _ 2 _)⟩
/-- A part of a text is the bytes at that place. -/
theorem extract_bytes (s : ByteArray) (q : Nat) : ∀ n, q + n ≤ s.size → s.extract q (q + n) = ⟨(Inf.bytesAt (numS s) (8 * q) n).toArray⟩ := by
  intro n h
  have key : ∀ n, q + n ≤ s.size → (s.extract q (q + n)).data.toList = Inf.bytesAt (numS s) (8 * q) n := by
    intro n
    induction n with
    | zero => intro _; simp [Inf.bytesAt]
    | succ n ih =>
      intro h
      have e := ih (by omega)
      unfold Inf.bytesAt
      rw [← e]
      have hb := numS_byte s (q + n) (by omega)
      rw [show (256 : Nat) ^ (q + n) = 2 ^ (8 * q + 8 * n) by rw [p256, Nat.mul_add]] at hb
      rw [← hb]
      simp only [ByteArray.data_extract, Array.toList_extract, List.extract_eq_take_drop]
      rw [show q + (n + 1) - q = n + 1 by omega, show q + n - q = n by omega, List.take_succ_eq_append_getElem (by simp; omega)]
      simp
      rfl
  have := key n h
  generalize s.extract q (q + n) = t at this
  obtain ⟨t⟩ := t
  simp only at this
  rw [← this]
end Huff
end Go.Proofs.Ytlfohihmkfphhaa
