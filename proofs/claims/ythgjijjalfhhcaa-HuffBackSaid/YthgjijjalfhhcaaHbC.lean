/- WALKS: what symbols cost. -/
import Derived.Test.YthgjijjalfhhcaaHbW
import Derived.RegionTactic
import Derived.ChangeAlike
namespace Go.Proofs.Ythgjijjalfhhcaa
set_option linter.unusedVariables false
open Go.RowKit
open Go.Proofs.Huf
attribute [local go_sem ↓] Go.wp_at_zero Go.wp_at_succ
namespace Huff

theorem drewN_two (w : World) (k n : Nat) : (w.drewN k).drewN n = w.drewN (k + n) := by
  unfold World.drewN
  simp [Nat.add_assoc]

set_option maxRecDepth 100000 in
set_option maxHeartbeats 2000000 in
theorem costs (A A2 : Option Addr) (b off N cap b2 off2 cap2 : Nat) (x : Nat → Int) (m : Nat → Nat) (w : World) (hA : 0 < N → A = some ⟨b, off, none⟩) (hx : Ints w b off N x) (hA2 : 0 < N → A2 = some ⟨b2, off2, none⟩) (hy : Ints w b2 off2 N (fun i => (m i : Int)))
    (hf : Fine N x) (hm : ∀ i, i < N → m i ≤ 60) :
    Calls Try.prog 26 #[.slice A N cap, .slice A2 N cap2] w fun e w' => e = .returned (.int .i64 (costT (natOf x) m N : Nat)) ∧ ∃ k, w' = w.drewN k := by
  have HX := hid hx
  have HY := hid hy
  have HA := hid hA
  have HA2 := hid hA2
  have HF := hid hf.2
  have HM := hid hm
  have hN := hf.1
  have HCB := hid (fun n (h : n ≤ N) => cost_le (natOf x) m n (fun i hi => ⟨by have := hf.2 i (by omega); unfold natOf; omega, hm i (by omega)⟩))
  clear hx hy hA hA2 hf hm
  go_enter Try.func26, Try.ntmps26
  go_wp2_with fail
  go_loopw [5, 6, 12] (fun tot _ i wr => ∃ n k : Nat, n ≤ N ∧ i = .int .i64 n ∧ tot = .int .i64 (costT (natOf x) m n : Nat) ∧ wr = w.drewN k) (fun _ _ i _ => N - (intOf i).toNat)
  case atStart => exact ⟨0, 0, by omega, rfl, rfl, rfl⟩
  case round =>
    obtain ⟨n, k, hn, rfl, rfl, hw⟩ := hrel
    have HWR := hid hw
    have hcb := HCB.out n hn
    by_cases hlt : n < N
    · have hA := HA.out (by omega)
      have hA2 := HA2.out (by omega)
      subst hA hA2
      have a0 : wr.cell? ⟨b, off + n, none⟩ = some (.int .i64 (x n)) := by rw [hw]; exact HX.out.at_ n hlt
      have d0 : wr.cell? ⟨b2, off2 + n, none⟩ = some (.int .i64 (m n : Nat)) := by rw [hw]; exact HY.out.at_ n hlt
      obtain ⟨x0, x1⟩ := HF.out n hlt
      have hm60 := HM.out n hlt
      have HCS := hid (show costT (natOf x) m (n + 1) = costT (natOf x) m n + natOf x n * m n from rfl)
      have HNX := hid (show natOf x n = (x n).toNat from rfl)
      have hc2 : costT (natOf x) m n ≤ 270000 := Nat.le_trans hcb (Nat.le_trans (Nat.mul_le_mul (show n ≤ 300 by omega) (Nat.le_refl _)) (by decide))
      generalize x n = y at a0 x0 x1 HNX
      obtain ⟨l, rfl⟩ := Int.eq_ofNat_of_zero_le x0
      generalize m n = q at d0 hm60 HCS
      generalize costT (natOf x) m n = T at hc2 HCS ⊢
      have hlq : l * q ≤ 15 * 60 := Nat.mul_le_mul (by omega) hm60
      have HLQ := hid (show (l : Int) * (q : Int) = ((l * q : Nat) : Int) by simp)
      have HNL := hid (show natOf x n = l by rw [HNX.out, Int.toNat_natCast])
      have hl0 : (0 : Int) ≤ (l : Int) := by omega
      have hq0 : (0 : Int) ≤ (q : Int) := by omega
      have hl15 : (l : Int) ≤ 15 := by omega
      have hq60 : (q : Int) ≤ 60 := by omega
      have hT : (T : Int) ≤ 270000 := by omega
      clear hw hcb hc2 hm60 x1 x0
      go_wp2_with fail
      go_quiet (fail)
      go_wp2_with fail
      go_roundw
      case rel => exact ⟨n + 1, k + nq, by omega, by go_num, val_int (by rw [HCS.out, HNL.out, HLQ.out]; omega), by rw [HWR.out]; exact drewN_two w k nq⟩
      case measure => simp [intOf]; omega
    · obtain rfl : n = N := by omega
      go_wp2_with fail
      go_ret
      exact ⟨rfl, k, rfl⟩
end Huff
end Go.Proofs.Ythgjijjalfhhcaa
