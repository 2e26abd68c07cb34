/- LZ: LzExpands's walk. -/
import Derived.Test.YtlhgkemiakekoaaLzN
namespace Go.Proofs.Ytlhgkemiakekoaa
set_option linter.unusedVariables false
open Go.RowKit
attribute [local go_sem ↓] Go.wp_at_zero Go.wp_at_succ
namespace Lz
set_option maxRecDepth 100000 in
set_option maxHeartbeats 4000000 in
theorem expands (A : Option Addr) (b off n c : Nat) (x y z : Nat → Int) (w : World) (hn : n ≤ 9223372036854775807) (hcap : n ≤ c) (hs : ToksAt w A b off n x y z) (hx : ∀ k, k < n → 0 ≤ x k ∧ x k < 256)
    (hy : ∀ k, k < n → -9223372036854775808 ≤ y k ∧ y k ≤ 9223372036854775807) :
    Calls Try.prog 3 #[.slice A n c] w fun e w' => e = .returned (.bool true) ∧ Below w.heap.size w w' := by
  have HS := hid hs
  have HU := hid hx
  have HY := hid hy
  clear hs hx hy
  go_enter Try.func3, Try.ntmps3
  go_upto_region 2 with fail
  go_cut [19, 20, 21] (fun v l i wx => ∃ m : Nat, m ≤ 101 ∧ m ≤ n ∧ v = .slice A m c ∧ l = .int .i64 m ∧ i = .int .i64 0 ∧ w = wx)
  case first =>
    by_cases h : (101 : Int) < (n : Int)
    · have h2 : (101 : Int) ≤ (n : Int) := by omega
      have h3 : (101 : Int) ≤ (c : Int) := by omega
      obtain rfl := HS.out.ad (by omega)
      go_wp2_with fail
      go_meet
      exact ⟨101, by omega, by omega, rfl, rfl, rfl, rfl⟩
    · have h3 : (n : Int) ≤ (c : Int) := by omega
      go_wp2_with fail
      all_goals go_meet
      all_goals exact ⟨n, by omega, by omega, rfl, rfl, rfl, rfl⟩
  case rest =>
    obtain ⟨m, hm1, hm2, rfl, rfl, rfl, hwc⟩ := hcut
    subst hwc
    have hm9 : m ≤ n := hm2
    go_wp2_with fail
    go_loopw [3, 21] (fun q i wr => ∃ (k : Nat) (Q : Int), k ≤ m ∧ q = .int .i64 Q ∧ 0 ≤ Q ∧ Q ≤ 300 * (k : Int) ∧ i = .int .i64 k ∧ Below w.heap.size w wr) (fun _ i _ => m - (intOf i).toNat)
    case atStart => exact ⟨0, 0, Nat.zero_le _, rfl, Int.le_refl _, by omega, rfl, Below.refl _ _⟩
    case round =>
      obtain ⟨k, Q, hk, rfl, hQ0, hQ1, rfl, hB⟩ := hrel
      have HB := hid hB
      clear hB
      by_cases hlt : k < m
      · obtain rfl := HS.out.ad (by omega)
        obtain ⟨c0, c1, c2⟩ := (HS.out.below HB.out).at_ k (by omega)
        have hr := HY.out k (by omega)
        generalize x k = s at *
        generalize y k = p at *
        generalize z k = r at *
        obtain ⟨t, ht⟩ : ∃ t : Int, max 0 (min p 300) = t := ⟨_, rfl⟩
        have ⟨t0, t1⟩ : 0 ≤ t ∧ t ≤ 300 := by omega
        have w0 : IntKind.i64.wrap (Q + t) = Q + t := IntWalk.i64_in _ (by omega)
        clear hr
        go_wp2_with fail
        go_roundw
        case rel => exact ⟨k + 1, _, by omega, rfl, by (split <;> (try split) <;> omega), by (split <;> (try split) <;> omega), by go_num, HB.out.alloc HB.out.size _⟩
        case measure => simp [intOf]; omega
      · obtain rfl : k = m := by omega
        have hkk : ¬ (k : Int) < (k : Int) := by omega
        by_cases h100 : (100 : Int) < (n : Int)
        · go_wp2_with fail
          refine (lives _).mono ?_
          rintro e w1 ⟨rfl, b1⟩
          go_wp2_with fail
          go_ret
          exact ⟨rfl, HB.out.trans (b1.mono HB.out.size)⟩
        · by_cases h5 : 5000 < Q
          · go_wp2_with fail
            refine (lives _).mono ?_
            rintro e w1 ⟨rfl, b1⟩
            go_wp2_with fail
            go_ret
            exact ⟨rfl, HB.out.trans (b1.mono HB.out.size)⟩
          · have hn1 : n ≤ 100 := by omega
            have E1 := hid (fun W h => expand A b off n c x y z W (by omega) h HU.out)
            have E2 := hid (fun W h => refExpand A b off n c x y z W (by omega) h HU.out HY.out)
            have CT := hid (fun W h => count A b off n c x y z W (by omega) h)
            have RC := hid (fun W h => right A b off n c x y z W (by omega) h)
            clear hm9 hm1 hm2
            cases hr : expT x y z n with
            | none =>
              rw [hr] at E1 E2 RC
              clear hr
              unfold expV at E1 E2
              go_wp2_with fail
              refine (E1.out _ (HS.out.below HB.out)).mono ?_
              rintro e w1 ⟨rfl, b1⟩
              have B1 := hid (HB.out.trans (b1.mono HB.out.size))
              clear b1
              go_wp2_with fail
              refine (E2.out _ (HS.out.below B1.out)).mono ?_
              rintro e w2 ⟨rfl, b2⟩
              have B2 := hid (B1.out.trans (b2.mono B1.out.size))
              clear b2
              go_wp2_with fail
              refine (CT.out _ (HS.out.below B2.out)).mono ?_
              rintro e w3 ⟨rfl, b3⟩
              have B3 := hid (B2.out.trans (b3.mono B2.out.size))
              clear b3
              go_wp2_with fail
              go_loopw [12, 57] (fun q i wr => ∃ k : Nat, k ≤ n ∧ q = .int .i64 (byN y k : Nat) ∧ i = .int .i64 k ∧ Below w.heap.size w wr) (fun _ i _ => n - (intOf i).toNat)
              case atStart => exact ⟨0, Nat.zero_le _, rfl, rfl, B3.out⟩
              case round =>
                obtain ⟨k, hk, rfl, rfl, hB4⟩ := hrel
                have B4 := hid hB4
                have hll := byN_le y k
                clear hB4
                by_cases hlt : k < n
                · obtain rfl := HS.out.ad (by omega)
                  obtain ⟨c0, c1, c2⟩ := (HS.out.below B4.out).at_ k hlt
                  have HK := hid (show byN y (k + 1) = if y k = 0 then byN y k + 1 else byN y k from rfl)
                  generalize x k = s at *
                  generalize y k = p at *
                  generalize z k = r at *
                  generalize byN y k = q at *
                  by_cases h0 : p = 0
                  · rw [if_pos h0] at HK
                    subst h0
                    go_wp2_with fail
                    go_roundw
                    case rel => exact ⟨k + 1, by omega, by rw [HK.out]; go_num, by go_num, B4.out.alloc B4.out.size _⟩
                    case measure => simp [intOf]; omega
                  · rw [if_neg h0] at HK
                    have e0 : (p == 0) = false := by simpa using h0
                    go_wp2_with fail
                    go_roundw
                    case rel => exact ⟨k + 1, by omega, by rw [HK.out], by go_num, B4.out.alloc B4.out.size _⟩
                    case measure => simp [intOf]; omega
                · obtain rfl : k = n := by omega
                  have w0 : IntKind.i64.wrap ((k : Int) - (byN y k : Int)) = (k : Int) - (byN y k : Int) := IntWalk.i64_in _ (by omega)
                  clear hlt
                  go_wp2_with fail
                  refine (RC.out _ (HS.out.below B4.out)).mono ?_
                  rintro e w5 ⟨rfl, b5⟩
                  have B5 := hid (B4.out.trans (b5.mono B4.out.size))
                  clear b5
                  go_wp2_with fail
                  refine (lives _).mono ?_
                  rintro e w6 ⟨rfl, b6⟩
                  go_wp2_with fail
                  go_ret
                  exact ⟨rfl, B5.out.trans (b6.mono B5.out.size)⟩
            | some L =>
              rw [hr] at E1 E2 RC
              clear hr
              unfold expV at E1 E2
              go_wp2_with fail
              refine (E1.out _ (HS.out.below HB.out)).mono ?_
              rintro e w1 ⟨rfl, b1⟩
              have B1 := hid (HB.out.trans (b1.mono HB.out.size))
              clear b1
              go_wp2_with fail
              refine (E2.out _ (HS.out.below B1.out)).mono ?_
              rintro e w2 ⟨rfl, b2⟩
              have B2 := hid (B1.out.trans (b2.mono B1.out.size))
              clear b2
              go_wp2_with fail
              refine (CT.out _ (HS.out.below B2.out)).mono ?_
              rintro e w3 ⟨rfl, b3⟩
              have B3 := hid (B2.out.trans (b3.mono B2.out.size))
              clear b3
              go_wp2_with fail
              go_loopw [12, 57] (fun q i wr => ∃ k : Nat, k ≤ n ∧ q = .int .i64 (byN y k : Nat) ∧ i = .int .i64 k ∧ Below w.heap.size w wr) (fun _ i _ => n - (intOf i).toNat)
              case atStart => exact ⟨0, Nat.zero_le _, rfl, rfl, B3.out⟩
              case round =>
                obtain ⟨k, hk, rfl, rfl, hB4⟩ := hrel
                have B4 := hid hB4
                have hll := byN_le y k
                clear hB4
                by_cases hlt : k < n
                · obtain rfl := HS.out.ad (by omega)
                  obtain ⟨c0, c1, c2⟩ := (HS.out.below B4.out).at_ k hlt
                  have HK := hid (show byN y (k + 1) = if y k = 0 then byN y k + 1 else byN y k from rfl)
                  generalize x k = s at *
                  generalize y k = p at *
                  generalize z k = r at *
                  generalize byN y k = q at *
                  by_cases h0 : p = 0
                  · rw [if_pos h0] at HK
                    subst h0
                    go_wp2_with fail
                    go_roundw
                    case rel => exact ⟨k + 1, by omega, by rw [HK.out]; go_num, by go_num, B4.out.alloc B4.out.size _⟩
                    case measure => simp [intOf]; omega
                  · rw [if_neg h0] at HK
                    have e0 : (p == 0) = false := by simpa using h0
                    go_wp2_with fail
                    go_roundw
                    case rel => exact ⟨k + 1, by omega, by rw [HK.out], by go_num, B4.out.alloc B4.out.size _⟩
                    case measure => simp [intOf]; omega
                · obtain rfl : k = n := by omega
                  have w0 : IntKind.i64.wrap ((k : Int) - (byN y k : Int)) = (k : Int) - (byN y k : Int) := IntWalk.i64_in _ (by omega)
                  clear hlt
                  go_wp2_with fail
                  refine (RC.out _ (HS.out.below B4.out)).mono ?_
                  rintro e w5 ⟨rfl, b5⟩
                  have B5 := hid (B4.out.trans (b5.mono B4.out.size))
                  clear b5
                  go_wp2_with fail
                  refine (lives _).mono ?_
                  rintro e w6 ⟨rfl, b6⟩
                  go_wp2_with fail
                  go_ret
                  exact ⟨rfl, B5.out.trans (b6.mono B5.out.size)⟩

end Lz
end Go.Proofs.Ytlhgkemiakekoaa
