/- WALKS: of which kind lengths are, by the document. -/
import Derived.Test.YtlfohihmkfphhaaHufV
namespace Go.Proofs.Ytlfohihmkfphhaa
set_option linter.unusedVariables false
open Go.RowKit
open Go.Proofs.Huf
namespace Huff

theorem wt_pos (n : Nat) (h : n ≠ 0) : wt n = 2 ^ (15 - n) := by unfold wt; rw [if_neg h]
theorem half_int (i : Nat) (h : i < 15) : ((2 ^ (15 - i) : Nat) : Int) / 2 = ((2 ^ (15 - (i + 1)) : Nat) : Int) := by
  rw [← half_pow i h]; omega
theorem pow15_le (i : Nat) : 2 ^ (15 - i) ≤ 32768 := Nat.pow_le_pow_right (show 0 < 2 by decide) (show 15 - i ≤ 15 by omega)

set_option maxRecDepth 100000 in
set_option maxHeartbeats 1000000 in
theorem refKind_yes (A : Option Addr) (b off len cap : Nat) (x : Nat → Int) (w : World) (hA : 0 < len → A = some ⟨b, off, none⟩) (hx : Ints w b off len x) (hf : Fine len x) :
    Calls Try.prog 14 #[.slice A len cap] w fun e w' => e = .returned (.int .i64 (kindOf (wT (natOf x) len) : Nat)) ∧ w = w' := by
  have HX := hid hx
  have HA := hid hA
  have HF := hid hf
  have hlen := hf.1
  clear hx hA hf
  have h300 : decide (300 < (len : Int)) = false := by rw [decide_eq_false_iff_not]; omega
  go_enter Try.func14, Try.ntmps14
  go_wp2_with fail
  go_loop [3, 5, 6, 7, 13] (fun s _ _ _ i => ∃ j : Nat, j ≤ len ∧ i = .int .i64 j ∧ s = .int .i64 (wT (natOf x) j : Nat)) (fun _ _ _ _ i => len - (intOf i).toNat)
  case atStart => exact ⟨0, by omega, rfl, rfl⟩
  case round =>
    obtain ⟨j, hj, rfl, rfl⟩ := hrel
    have hsb := wT_le (natOf x) j
    have hsi : ((wT (natOf x) j : Nat) : Int) ≤ 4915200 := by omega
    clear hsb
    by_cases hlt : j < len
    · have hA := HA.out (by omega)
      subst hA
      have a0 : w.cell? ⟨b, off + j, none⟩ = some (.int .i64 (x j)) := HX.out.at_ j hlt
      obtain ⟨x0, x1⟩ := HF.out.2 j hlt
      have HS := hid (show wT (natOf x) (j + 1) = wT (natOf x) j + wt (natOf x j) from rfl)
      have HN := hid (show natOf x j = (x j).toNat from rfl)
      generalize wT (natOf x) j = s at hsi HS ⊢
      generalize x j = y at a0 x0 x1 HN
      obtain ⟨n, rfl⟩ := Int.eq_ofNat_of_zero_le x0
      go_wp2_with fail
      go_loop [6, 7] (fun one i => ∃ k : Nat, k ≤ n ∧ i = .int .i64 k ∧ one = .int .i64 ((2 ^ (15 - k) : Nat) : Int)) (fun _ i => n - (intOf i).toNat)
      case atStart => exact ⟨0, by omega, rfl, rfl⟩
      case round =>
        obtain ⟨k, hk, rfl, rfl⟩ := hrel
        have hp := pow15_le k
        by_cases hkn : k < n
        · have HH := hid (half_int k (by omega))
          generalize 2 ^ (15 - k) = p at hp HH ⊢
          go_wp2_with fail
          go_round
          case rel => exact ⟨k + 1, by omega, by go_num, val_int HH.out⟩
          case measure => simp [intOf]; omega
        · have ekn : k = n := by omega
          have HE := hid ekn
          have hnk : ¬ (k : Int) < (n : Int) := by omega
          by_cases hz : n = 0
          · have HW := hid (show wT (natOf x) (j + 1) = s from by rw [HS.out, HN.out, hz]; simp [wt])
            have hz2 : ¬ 0 < (n : Int) := by omega
            clear ekn
            generalize 2 ^ (15 - k) = p at hp ⊢
            go_wp2_with fail
            go_round
            case rel => exact ⟨j + 1, by omega, by go_num, val_int (by rw [HW.out])⟩
            case measure => simp [intOf]; omega
          · have HW := hid (show wT (natOf x) (j + 1) = s + 2 ^ (15 - k) from by rw [HS.out, HN.out, Int.toNat_natCast, wt_pos n hz, ekn])
            have hz2 : 0 < (n : Int) := by omega
            clear ekn
            generalize 2 ^ (15 - k) = p at hp HW ⊢
            go_wp2_with fail
            go_round
            case rel => exact ⟨j + 1, by omega, by go_num, val_int (by rw [HW.out]; omega)⟩
            case measure => simp [intOf]; omega
    · obtain ⟨r, hr⟩ : ∃ r, r = wT (natOf x) len := ⟨_, rfl⟩
      have ej : j = len := by omega
      rw [ej, ← hr] at hsi ⊢
      have HRR := hid hr
      clear hr ej hj hlt
      by_cases r0 : r = 0
      · subst r0
        go_wp2_with fail
        go_ret
        exact ⟨ret_int (by rw [← HRR.out]; rfl), rfl⟩
      · have b0 : ((r : Int) == 0) = false := by simp; omega
        by_cases r1 : r < 32768
        · have hk : kindOf r = 2 := by unfold kindOf; rw [if_neg r0, if_pos r1]
          have HK := hid hk
          have b1 : decide ((r : Int) < 32768) = true := by rw [decide_eq_true_iff]; omega
          have b2 : ((r : Int) == 32768) = false := by simp; omega
          clear hk r1 r0
          go_wp2_with fail
          go_ret
          exact ⟨ret_int (by rw [← HRR.out, HK.out]; rfl), rfl⟩
        · have b1 : decide ((r : Int) < 32768) = false := by rw [decide_eq_false_iff_not]; omega
          by_cases r2 : r = 32768
          · have hk : kindOf r = 1 := by unfold kindOf; rw [if_neg r0, if_neg r1, if_pos r2]
            have HK := hid hk
            have b2 : ((r : Int) == 32768) = true := by simp; omega
            clear hk r2 r1 r0
            go_wp2_with fail
            go_ret
            exact ⟨ret_int (by rw [← HRR.out, HK.out]; rfl), rfl⟩
          · have hk : kindOf r = 3 := by unfold kindOf; rw [if_neg r0, if_neg r1, if_neg r2]
            have HK := hid hk
            have b2 : ((r : Int) == 32768) = false := by simp; omega
            clear hk r0 r1 r2
            go_wp2_with fail
            go_ret
            exact ⟨ret_int (by rw [← HRR.out, HK.out]; rfl), rfl⟩
set_option maxRecDepth 100000 in
set_option maxHeartbeats 1000000 in
theorem refKind_no (A : Option Addr) (b off len cap : Nat) (x : Nat → Int) (w : World) (hA : 0 < len → A = some ⟨b, off, none⟩) (hx : Ints w b off len x) (hm : len ≤ 9223372036854775807) (hf : ¬ Fine len x) :
    Calls Try.prog 14 #[.slice A len cap] w fun e w' => e = .returned (.int .i64 3) ∧ w = w' := by
  have HX := hid hx
  have HA := hid hA
  have HF := hid hf
  clear hx hA
  by_cases hlen : len ≤ 300
  case neg =>
    have h300 : decide (300 < (len : Int)) = true := by rw [decide_eq_true_iff]; omega
    clear hf
    go_enter Try.func14, Try.ntmps14
    go_wp2_with fail
    go_ret
    exact ⟨rfl, rfl⟩
  have HFT := hid (show ¬ FineTo x len from fun c => hf ⟨hlen, c⟩)
  clear hf HF
  have h300 : decide (300 < (len : Int)) = false := by rw [decide_eq_false_iff_not]; omega
  go_enter Try.func14, Try.ntmps14
  go_wp2_with fail
  go_loop [3, 5, 6, 7, 13] (fun s _ _ _ i => ∃ j : Nat, j ≤ len ∧ i = .int .i64 j ∧ FineTo x j ∧ s = .int .i64 (wT (natOf x) j : Nat)) (fun _ _ _ _ i => len - (intOf i).toNat)
  case atStart => exact ⟨0, by omega, rfl, (fun i hi => by omega), rfl⟩
  case round =>
    obtain ⟨j, hj, rfl, hff, rfl⟩ := hrel
    have HFF := hid hff
    clear hff
    have hsb := wT_le (natOf x) j
    have hsi : ((wT (natOf x) j : Nat) : Int) ≤ 4915200 := by omega
    clear hsb
    by_cases hlt : j < len
    · have hA := HA.out (by omega)
      subst hA
      have a0 : w.cell? ⟨b, off + j, none⟩ = some (.int .i64 (x j)) := HX.out.at_ j hlt
      have HFN := hid (show 0 ≤ x j ∧ x j ≤ 15 → FineTo x (j + 1) from fun h i hi => by
        by_cases e : i = j
        · rw [e]; exact h
        · exact HFF.out i (by omega))
      have HS := hid (show wT (natOf x) (j + 1) = wT (natOf x) j + wt (natOf x j) from rfl)
      have HN := hid (show natOf x j = (x j).toNat from rfl)
      generalize wT (natOf x) j = s at hsi HS ⊢
      generalize x j = y at a0 HN HFN
      by_cases c0 : y < 0
      case pos =>
        have b0 : decide (y < 0) = true := by simpa using c0
        go_wp2_with fail
        go_ret
        exact ⟨rfl, rfl⟩
      have b0 : decide (y < 0) = false := by simpa using c0
      by_cases c1 : 15 < y
      case pos =>
        have b1 : decide (15 < y) = true := by simpa using c1
        go_wp2_with fail
        go_ret
        exact ⟨rfl, rfl⟩
      have x0 : 0 ≤ y := by omega
      have x1 : y ≤ 15 := by omega
      have HFO := hid (HFN.out ⟨x0, x1⟩)
      clear HFN b0 c0 c1
      obtain ⟨n, rfl⟩ := Int.eq_ofNat_of_zero_le x0
      go_wp2_with fail
      go_loop [6, 7] (fun one i => ∃ k : Nat, k ≤ n ∧ i = .int .i64 k ∧ one = .int .i64 ((2 ^ (15 - k) : Nat) : Int)) (fun _ i => n - (intOf i).toNat)
      case atStart => exact ⟨0, by omega, rfl, rfl⟩
      case round =>
        obtain ⟨k, hk, rfl, rfl⟩ := hrel
        have hp := pow15_le k
        by_cases hkn : k < n
        · have HH := hid (half_int k (by omega))
          generalize 2 ^ (15 - k) = p at hp HH ⊢
          go_wp2_with fail
          go_round
          case rel => exact ⟨k + 1, by omega, by go_num, val_int HH.out⟩
          case measure => simp [intOf]; omega
        · have ekn : k = n := by omega
          have HE := hid ekn
          have hnk : ¬ (k : Int) < (n : Int) := by omega
          by_cases hz : n = 0
          · have HW := hid (show wT (natOf x) (j + 1) = s from by rw [HS.out, HN.out, hz]; simp [wt])
            have hz2 : ¬ 0 < (n : Int) := by omega
            clear ekn
            generalize 2 ^ (15 - k) = p at hp ⊢
            go_wp2_with fail
            go_round
            case rel => exact ⟨j + 1, by omega, by go_num, HFO.out, val_int (by rw [HW.out])⟩
            case measure => simp [intOf]; omega
          · have HW := hid (show wT (natOf x) (j + 1) = s + 2 ^ (15 - k) from by rw [HS.out, HN.out, Int.toNat_natCast, wt_pos n hz, ekn])
            have hz2 : 0 < (n : Int) := by omega
            clear ekn
            generalize 2 ^ (15 - k) = p at hp HW ⊢
            go_wp2_with fail
            go_round
            case rel => exact ⟨j + 1, by omega, by go_num, HFO.out, val_int (by rw [HW.out]; omega)⟩
            case measure => simp [intOf]; omega
    · have ej : j = len := by omega
      rw [ej] at HFF
      exact absurd HFF.out HFT.out
end Huff
end Go.Proofs.Ytlfohihmkfphhaa
