/- WALK: the document's own look at parts of times. -/
import Derived.Test.YtbbjjhcpeablcaaDoorDosX
namespace Go.Proofs.YtbbjjhcpeablcaaDoor
set_option linter.unusedVariables false
open Go.RowKit
open Go.Proofs.Dos
attribute [local go_sem ↓] Go.wp_at_zero Go.wp_at_succ

set_option maxRecDepth 100000 in
set_option maxHeartbeats 20000000 in
/-- The document's own: may these parts be? -/
theorem refRight (x : T) (w : World) (hx : Ints x) :
    Calls Tryd.prog 21 #[tV x] w fun e w' => e = .returned (.bool (decide (RightT x))) ∧ Below w.heap.size w w' := by
  have hF : decide (RightT x) = (fitsB x && decide (x.second % 2 = 0)) := by unfold RightT fitsB; exact Bool.decide_and _ _
  rw [hF]
  have hF := fits_of x
  obtain ⟨y0, y1, m0, m1, d0, d1, _, _, _, _, s0, s1⟩ := hx
  obtain ⟨y, m, d, h, n, s⟩ := x
  simp only [tV] at *
  have HF := hid hF; clear hF
  have hb := daysI_bd y m
  have HD := hid (fun W => refDays y m W y0 y1 m0 m1)
  generalize daysI y m = D at hb HF HD
  obtain ⟨b0, b1⟩ := hb
  generalize fitsB { year := y, month := m, day := d, hour := h, minute := n, second := s } = F at HF ⊢
  have hiff : F = true ↔ (1 ≤ d ∧ d ≤ D ∧ 0 ≤ h ∧ h < 24 ∧ 0 ≤ n ∧ n < 60 ∧ 0 ≤ s ∧ s < 60) := by
    rw [← HF.out _ rfl]; simp [inB_iff, and_assoc]
  have HI := hid hiff; clear hiff HF
  by_cases q0 : 1 ≤ d
  rotate_left
  · have HW := hid (show false = (F && decide (s % 2 = 0)) by
      cases hf : F
      case false => rfl
      case true => have := HI.out.1 hf; simp; omega)
    clear HI
    go_enter Tryd.func21, Tryd.ntmps21
    go_wp2_with fail
    have fa : ¬ 1 ≤ d := by omega
    go_quiet ((go_at_call 37; exact Calls.quiet_of_same ((HD.out _).mono fun e w' h => ⟨h.1, h.2.symm⟩)))
    go_wp2_with fail
    go_ret
    exact ⟨ret_bool HW.out, below_drewN ((Below.refl _ _).alloc (Nat.le_refl _) _) _⟩
  by_cases q1 : d ≤ D
  rotate_left
  · have HW := hid (show false = (F && decide (s % 2 = 0)) by
      cases hf : F
      case false => rfl
      case true => have := HI.out.1 hf; simp; omega)
    clear HI
    go_enter Tryd.func21, Tryd.ntmps21
    go_wp2_with fail
    have fa : ¬ d ≤ D := by omega
    go_quiet ((go_at_call 37; exact Calls.quiet_of_same ((HD.out _).mono fun e w' h => ⟨h.1, h.2.symm⟩)))
    go_wp2_with fail
    go_ret
    exact ⟨ret_bool HW.out, below_drewN ((Below.refl _ _).alloc (Nat.le_refl _) _) _⟩
  by_cases q2 : 0 ≤ h
  rotate_left
  · have HW := hid (show false = (F && decide (s % 2 = 0)) by
      cases hf : F
      case false => rfl
      case true => have := HI.out.1 hf; simp; omega)
    clear HI
    go_enter Tryd.func21, Tryd.ntmps21
    go_wp2_with fail
    have fa : ¬ 0 ≤ h := by omega
    go_quiet ((go_at_call 37; exact Calls.quiet_of_same ((HD.out _).mono fun e w' h => ⟨h.1, h.2.symm⟩)))
    go_wp2_with fail
    go_ret
    exact ⟨ret_bool HW.out, below_drewN ((Below.refl _ _).alloc (Nat.le_refl _) _) _⟩
  by_cases q3 : h ≤ 23
  rotate_left
  · have HW := hid (show false = (F && decide (s % 2 = 0)) by
      cases hf : F
      case false => rfl
      case true => have := HI.out.1 hf; simp; omega)
    clear HI
    go_enter Tryd.func21, Tryd.ntmps21
    go_wp2_with fail
    have fa : ¬ h ≤ 23 := by omega
    go_quiet ((go_at_call 37; exact Calls.quiet_of_same ((HD.out _).mono fun e w' h => ⟨h.1, h.2.symm⟩)))
    go_wp2_with fail
    go_ret
    exact ⟨ret_bool HW.out, below_drewN ((Below.refl _ _).alloc (Nat.le_refl _) _) _⟩
  by_cases q4 : 0 ≤ n
  rotate_left
  · have HW := hid (show false = (F && decide (s % 2 = 0)) by
      cases hf : F
      case false => rfl
      case true => have := HI.out.1 hf; simp; omega)
    clear HI
    go_enter Tryd.func21, Tryd.ntmps21
    go_wp2_with fail
    have fa : ¬ 0 ≤ n := by omega
    go_quiet ((go_at_call 37; exact Calls.quiet_of_same ((HD.out _).mono fun e w' h => ⟨h.1, h.2.symm⟩)))
    go_wp2_with fail
    go_ret
    exact ⟨ret_bool HW.out, below_drewN ((Below.refl _ _).alloc (Nat.le_refl _) _) _⟩
  by_cases q5 : n ≤ 59
  rotate_left
  · have HW := hid (show false = (F && decide (s % 2 = 0)) by
      cases hf : F
      case false => rfl
      case true => have := HI.out.1 hf; simp; omega)
    clear HI
    go_enter Tryd.func21, Tryd.ntmps21
    go_wp2_with fail
    have fa : ¬ n ≤ 59 := by omega
    go_quiet ((go_at_call 37; exact Calls.quiet_of_same ((HD.out _).mono fun e w' h => ⟨h.1, h.2.symm⟩)))
    go_wp2_with fail
    go_ret
    exact ⟨ret_bool HW.out, below_drewN ((Below.refl _ _).alloc (Nat.le_refl _) _) _⟩
  by_cases q6 : 0 ≤ s
  rotate_left
  · have HW := hid (show false = (F && decide (s % 2 = 0)) by
      cases hf : F
      case false => rfl
      case true => have := HI.out.1 hf; simp; omega)
    clear HI
    go_enter Tryd.func21, Tryd.ntmps21
    go_wp2_with fail
    have fa : ¬ 0 ≤ s := by omega
    go_quiet ((go_at_call 37; exact Calls.quiet_of_same ((HD.out _).mono fun e w' h => ⟨h.1, h.2.symm⟩)))
    go_wp2_with fail
    go_ret
    exact ⟨ret_bool HW.out, below_drewN ((Below.refl _ _).alloc (Nat.le_refl _) _) _⟩
  by_cases q7 : s ≤ 58
  rotate_left
  · have HW := hid (show false = (F && decide (s % 2 = 0)) by
      cases hf : F
      case false => rfl
      case true => have := HI.out.1 hf; simp; omega)
    clear HI
    go_enter Tryd.func21, Tryd.ntmps21
    go_wp2_with fail
    have fa : ¬ s ≤ 58 := by omega
    go_quiet ((go_at_call 37; exact Calls.quiet_of_same ((HD.out _).mono fun e w' h => ⟨h.1, h.2.symm⟩)))
    go_wp2_with fail
    go_ret
    exact ⟨ret_bool HW.out, below_drewN ((Below.refl _ _).alloc (Nat.le_refl _) _) _⟩
  by_cases q8 : s % 2 = 0
  rotate_left
  · have HW := hid (show false = (F && decide (s % 2 = 0)) by
      cases hf : F
      case false => rfl
      case true => have := HI.out.1 hf; simp; omega)
    clear HI
    go_enter Tryd.func21, Tryd.ntmps21
    go_wp2_with fail
    have fa : ¬ s % 2 = 0 := by omega
    go_quiet ((go_at_call 37; exact Calls.quiet_of_same ((HD.out _).mono fun e w' h => ⟨h.1, h.2.symm⟩)))
    go_wp2_with fail
    go_ret
    exact ⟨ret_bool ((show (s.tmod 2 == 0) = false by rw [Int.tmod_eq_emod_of_nonneg q6]; simp; omega).trans HW.out), below_drewN ((Below.refl _ _).alloc (Nat.le_refl _) _) _⟩
  have hf : F = true := HI.out.2 (by omega)
  have HW := hid (show true = (F && decide (s % 2 = 0)) by rw [hf]; simp; omega)
  clear HI hf
  go_enter Tryd.func21, Tryd.ntmps21
  go_wp2_with fail
  go_quiet ((go_at_call 37; exact Calls.quiet_of_same ((HD.out _).mono fun e w' h => ⟨h.1, h.2.symm⟩)))
  go_wp2_with fail
  go_ret
  exact ⟨ret_bool ((show (s.tmod 2 == 0) = true by rw [Int.tmod_eq_emod_of_nonneg q6]; simp; omega).trans HW.out), below_drewN ((Below.refl _ _).alloc (Nat.le_refl _) _) _⟩
end Go.Proofs.YtbbjjhcpeablcaaDoor
