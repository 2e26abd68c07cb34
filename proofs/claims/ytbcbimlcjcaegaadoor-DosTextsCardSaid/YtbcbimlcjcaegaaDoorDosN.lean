/- WALKS: seconds behind 1980. -/
import Derived.Test.YtbcbimlcjcaegaaDoorDosS
import Derived.Test.YtbcbimlcjcaegaaDoorDosO
namespace Go.Proofs.YtbcbimlcjcaegaaDoor
set_option linter.unusedVariables false
open Go.RowKit
open Go.Proofs.Dos
attribute [local go_sem ↓] Go.wp_at_zero Go.wp_at_succ

/-- What Seconds tells. -/
def toldSecs (x : T) : Value := if fitsB x then .tuple #[.int .i64 (secsI x), .bool true] else .tuple #[.int .i64 0, .bool false]

set_option maxRecDepth 100000 in
set_option maxHeartbeats 2000000 in
theorem seconds (t : Int) (w : World) (hT : Tab w) (h0 : 0 ≤ t) (h1 : t < 4294967296) :
    Calls Tryd.prog 20 #[.int .u32 t] w fun e w' => e = .returned (toldSecs (splitI t)) ∧ Below w.heap.size w w' := by
  have HP := hid (fun w hT => split t w hT h0 h1)
  generalize splitI t = x at HP ⊢
  cases hb : fitsB x
  · have HV := hid (show toldSecs x = .tuple #[.int .i64 0, .bool false] by unfold toldSecs; rw [hb]; rfl)
    have HS := hid (show told x = .tuple #[.agg #[.int .i64 0, .int .i64 0, .int .i64 0, .int .i64 0, .int .i64 0, .int .i64 0], .bool false] by unfold told; rw [hb]; rfl)
    rw [HS.out] at HP
    clear hb HS
    go_enter Tryd.func20, Tryd.ntmps20
    go_wp2_with fail
    refine (HP.out _ hT).mono ?_
    rintro e w1 ⟨rfl, hB1⟩
    have HB1 := hid hB1; clear hB1
    go_wp2_with fail
    go_returns
    exact ⟨by rw [HV.out]; rfl, HB1.out.alloc HB1.out.size _⟩
  · have hf := fitsB_yes hb
    have HV := hid (show toldSecs x = .tuple #[.int .i64 (secsI x), .bool true] by unfold toldSecs; rw [hb]; rfl)
    have HS := hid (show told x = .tuple #[tV x, .bool true] by unfold told; rw [hb]; rfl)
    rw [HS.out] at HP
    have hm := hf.month
    have hD := daysOf_bd hf
    have HDD := hid (show daysOf x = yearsN (x.year - 1980).toNat + monthsN x.year (x.month - 1).toNat + (x.day - 1) from rfl)
    have HSS := hid (show secsI x = ((daysOf x * 24 + x.hour) * 60 + x.minute) * 60 + x.second from rfl)
    obtain ⟨q1, q2, q3, q4, q5, q6, q7, q8⟩ := hf
    clear hb HS q2
    generalize secsI x = SS at HV HSS
    generalize daysOf x = DD at HDD HSS hD
    obtain ⟨y, m, d, h, n, s⟩ := x
    simp only [tV] at *
    obtain ⟨K, rfl⟩ : ∃ K : Nat, y = 1980 + (K : Int) := ⟨(y - 1980).toNat, by omega⟩
    obtain ⟨M, rfl⟩ : ∃ M : Nat, m = 1 + (M : Int) := ⟨(m - 1).toNat, by omega⟩
    have eK : (1980 + (K : Int) - 1980).toNat = K := by omega
    have eM : (1 + (M : Int) - 1).toNat = M := by omega
    rw [eK, eM] at HDD
    have hK : K ≤ 127 := by omega
    have hM : M ≤ 11 := by omega
    have hd31 : d ≤ 31 := by omega
    clear eK eM hm
    have HYB := hid yearsN_bd
    have HMB := hid (monthsN_bd (1980 + (K : Int)))
    have HYS := hid (show ∀ k : Nat, yearsN k + yd (1980 + (k : Int)) = yearsN (k + 1) from fun _ => rfl)
    have HMS := hid (show ∀ k : Nat, monthsN (1980 + (K : Int)) k + daysI (1980 + (K : Int)) (1 + (k : Int)) = monthsN (1980 + (K : Int)) (k + 1) from fun _ => rfl)
    have HY0 := hid (show yearsN 0 = 0 from rfl)
    have HM0 := hid (show monthsN (1980 + (K : Int)) 0 = 0 from rfl)
    go_enter Tryd.func20, Tryd.ntmps20
    go_wp2_with fail
    refine (HP.out _ hT).mono ?_
    rintro e w1 ⟨rfl, hB1⟩
    have HB1 := hid hB1; clear hB1
    have HT1 := hid (hT.step HB1.out)
    clear HP
    obtain ⟨c0, c1, c2, c3, c4, c5, _, _, _, _, _, _⟩ := six (heap_alloc_new w1 (.cells #[.int .i64 (1980 + (K : Int)), .int .i64 (1 + (M : Int)), .int .i64 d, .int .i64 h, .int .i64 n, .int .i64 s] 26))
    have HT2 := hid (HT1.out.alloc (.cells #[.int .i64 (1980 + (K : Int)), .int .i64 (1 + (M : Int)), .int .i64 d, .int .i64 h, .int .i64 n, .int .i64 s] 26))
    have HB2 := hid (HB1.out.alloc HB1.out.size (.cells #[.int .i64 (1980 + (K : Int)), .int .i64 (1 + (M : Int)), .int .i64 d, .int .i64 h, .int .i64 n, .int .i64 s] 26))
    obtain ⟨W, hW⟩ : ∃ W, W = w1.alloc (.cells #[.int .i64 (1980 + (K : Int)), .int .i64 (1 + (M : Int)), .int .i64 d, .int .i64 h, .int .i64 n, .int .i64 s] 26) := ⟨_, rfl⟩
    obtain ⟨g, hg⟩ : ∃ g, g = w1.heap.size := ⟨_, rfl⟩
    rw [← hW, ← hg] at c0 c1 c2 c3 c4 c5
    rw [← hW] at HT2 HB2
    go_wp2_with fail
    rw [← hW, ← hg]
    clear hW hg HT1 HB1 c2
    generalize hYF : yearsN = YF at *
    generalize hMF : monthsN (1980 + (K : Int)) = MF at *
    clear hYF hMF
    go_loop [6, 7] (fun dd yy => ∃ k : Nat, k ≤ K ∧ yy = .int .i64 (1980 + (k : Int)) ∧ dd = .int .i64 (d - 1 + YF k)) (fun _ yy => (2200 - intOf yy).toNat)
    case atStart => exact ⟨0, by omega, rfl, val_int (by rw [HY0.out]; omega)⟩
    case round =>
      obtain ⟨k, hk, rfl, rfl⟩ := hrel
      have y0 := HYB.out k
      have y1 := yd_bd (1980 + (k : Int))
      by_cases hlt : k < K
      · have HS := hid (HYS.out k)
        go_wp2_with (go_at_call 49; refine (yearDays (1980 + (k : Int)) _ (by omega) (by omega)).mono ?_; rintro e w' ⟨rfl, rfl⟩)
        go_round
        case rel => exact ⟨k + 1, by omega, by go_num, val_int (by have := HS.out; omega)⟩
        case measure => simp [intOf]; omega
      · obtain rfl : k = K := by omega
        clear hk hlt y1
        go_wp2_with fail
        go_loop [6, 8] (fun dd mm => ∃ j : Nat, j ≤ M ∧ mm = .int .i64 (1 + (j : Int)) ∧ dd = .int .i64 (d - 1 + YF k + MF j)) (fun _ mm => (20 - intOf mm).toNat)
        case atStart => exact ⟨0, by omega, rfl, val_int (by rw [HM0.out]; omega)⟩
        case round =>
          obtain ⟨j, hj, rfl, rfl⟩ := hrel
          have m0 := HMB.out j
          have m1 := daysI_bd (1980 + (k : Int)) (1 + (j : Int))
          by_cases hlt : j < M
          · have HS := hid (HMS.out j)
            go_wp2_with (go_at_call 17; refine (days (1980 + (k : Int)) (1 + (j : Int)) _ HT2.out (by omega) (by omega) (by omega) (by omega)).mono ?_; rintro e w' ⟨rfl, rfl⟩)
            go_round
            case rel => exact ⟨j + 1, by omega, by go_num, val_int (by have := HS.out; omega)⟩
            case measure => simp [intOf]; omega
          · obtain rfl : j = M := by omega
            have hdd := HDD.out
            have hss := HSS.out
            clear hj hlt m1
            have hE : d - 1 + YF k + MF j = DD := by omega
            rw [hE]
            clear hE hdd hss
            go_wp2_with fail
            go_returns
            exact ⟨by rw [HV.out, show SS = (DD * 86400 + h * 3600 + n * 60 + s) by have := HSS.out; omega]; rfl, HB2.out⟩

/-- What From tells of a number of seconds. -/
structure FromIs (n : Int) (v : Value) : Prop where
  no : (n < 0 ∨ 46751 * 86400 ≤ n) → v = .tuple #[.int .u32 0, .bool false]
  yes : 0 ≤ n → n < 46751 * 86400 → ∃ x : T, RightT x ∧ secsI x = n - n % 2 ∧ v = .tuple #[.int .u32 (ofI x), .bool true]

/-- The parts of a number of seconds. -/
theorem parts_of (n : Int) (K M : Nat) (D : Int) (h0 : 0 ≤ n) (hK : K ≤ 127) (hM : M ≤ 11) (hD : D = n / 86400 - yearsN K - monthsN (1980 + (K : Int)) M) (hD0 : 0 ≤ D) (hD1 : D < daysI (1980 + (K : Int)) (1 + (M : Int))) :
    RightT ⟨1980 + (K : Int), 1 + (M : Int), D + 1, n % 86400 / 3600, n % 3600 / 60, n % 60 / 2 * 2⟩ ∧
    secsI ⟨1980 + (K : Int), 1 + (M : Int), D + 1, n % 86400 / 3600, n % 3600 / 60, n % 60 / 2 * 2⟩ = n - n % 2 := by
  constructor
  · refine ⟨⟨by simp only; omega, by simp only; omega, ?_⟩, by simp only; omega⟩
    simp only; omega
  · unfold secsI daysOf
    simp only
    have e1 : (1980 + (K : Int) - 1980).toNat = K := by omega
    have e2 : (1 + (M : Int) - 1).toNat = M := by omega
    rw [e1, e2]; omega

set_option maxRecDepth 100000 in
set_option maxHeartbeats 2000000 in
theorem from_no (n : Int) (w : World) (h : n < 0) (h0 : -9223372036854775808 ≤ n) :
    Calls Tryd.prog 22 #[.int .i64 n] w fun e w' => e = .returned (.tuple #[.int .u32 0, .bool false]) ∧ w = w' := by
  go_enter Tryd.func22, Tryd.ntmps22
  go_wp2_with fail
  go_returns
  exact ⟨rfl, rfl⟩

set_option maxRecDepth 100000 in
set_option maxHeartbeats 4000000 in
theorem from_ (n : Int) (w : World) (hT : Tab w) (h0 : 0 ≤ n) (h1 : n ≤ 9223372036854775807) :
    Calls Tryd.prog 22 #[.int .i64 n] w fun e w' => (∃ v, e = .returned v ∧ FromIs n v) ∧ Below w.heap.size w w' := by
  have HP := hid (fun K M D hK hM hD hD0 hD1 => parts_of n K M D h0 hK hM hD hD0 hD1)
  have HYB := hid yearsN_bd
  have HYS := hid (show ∀ k : Nat, yearsN (k + 1) = yearsN k + yd (1980 + (k : Int)) from fun _ => rfl)
  have HY0 := hid (show yearsN 0 = 0 from rfl)
  have HY9 := hid years128
  have HYM := hid (fun (i j : Nat) (h : i ≤ j) => yearsN_mono h)
  have HM12 := hid months12
  have HMB := hid monthsN_bd
  have HMS := hid (show ∀ (y : Int) (j : Nat), monthsN y (j + 1) = monthsN y j + daysI y (1 + (j : Int)) from fun _ _ => rfl)
  have HM0 := hid (show ∀ y : Int, monthsN y 0 = 0 from fun _ => rfl)
  have HOf := hid (fun x w hT hx => of_ x w hT hx)
  have HTO := hid (fun (x : T) (h : RightT x) => toldOf_yes h)
  generalize yearsN = YF at *
  generalize monthsN = MF at *
  generalize toldOf = TO at *
  have hq : n / 86400 ≤ 106751991167300 := by omega
  have hr0 : 0 ≤ n % 86400 := by omega
  have hr1 : n % 86400 < 86400 := by omega
  go_enter Tryd.func22, Tryd.ntmps22
  go_wp2_with fail
  go_loop [4, 6] (fun dd yy => ∃ k : Nat, k ≤ 128 ∧ yy = .int .i64 (1980 + (k : Int)) ∧ dd = .int .i64 (n / 86400 - YF k) ∧ 0 ≤ n / 86400 - YF k) (fun _ yy => (2200 - intOf yy).toNat)
  case atStart => exact ⟨0, by omega, rfl, val_int (by rw [HY0.out]; omega), by rw [HY0.out]; omega⟩
  case round =>
    obtain ⟨k, hk, rfl, rfl, hk0⟩ := hrel
    have y0 := HYB.out k
    have y1 := yd_bd (1980 + (k : Int))
    by_cases hlt : k ≤ 127
    · by_cases hge : yd (1980 + (k : Int)) ≤ n / 86400 - YF k
      · have HS := hid (HYS.out k)
        go_wp2_with (go_at_call 49; refine (yearDays (1980 + (k : Int)) _ (by omega) (by omega)).mono ?_; rintro e w' ⟨rfl, rfl⟩)
        go_round
        case rel => exact ⟨k + 1, by omega, by go_num, val_int (by have := HS.out; omega), by have := HS.out; omega⟩
        case measure => simp [intOf]; omega
      · go_wp2_with (go_at_call 49; refine (yearDays (1980 + (k : Int)) _ (by omega) (by omega)).mono ?_; rintro e w' ⟨rfl, rfl⟩)
        go_loop [4, 7] (fun dd mm => ∃ j : Nat, j ≤ 11 ∧ mm = .int .i64 (1 + (j : Int)) ∧ dd = .int .i64 (n / 86400 - YF k - MF (1980 + (k : Int)) j) ∧ 0 ≤ n / 86400 - YF k - MF (1980 + (k : Int)) j) (fun _ mm => (20 - intOf mm).toNat)
        case atStart => exact ⟨0, by omega, rfl, val_int (by rw [HM0.out]; omega), by rw [HM0.out]; omega⟩
        case round =>
          obtain ⟨j, hj, rfl, rfl, hj0⟩ := hrel
          have m0 := HMB.out (1980 + (k : Int)) j
          have m1 := daysI_bd (1980 + (k : Int)) (1 + (j : Int))
          by_cases hge2 : daysI (1980 + (k : Int)) (1 + (j : Int)) ≤ n / 86400 - YF k - MF (1980 + (k : Int)) j
          · have HS := hid (HMS.out (1980 + (k : Int)) j)
            have hj12 : j + 1 ≤ 11 := by
              by_cases c : j = 11
              · subst c
                have a1 := HM12.out (1980 + (k : Int)) (by omega) (by omega)
                have a2 : MF (1980 + (k : Int)) 12 = MF (1980 + (k : Int)) 11 + daysI (1980 + (k : Int)) (1 + ((11 : Nat) : Int)) := HMS.out _ 11
                omega
              · omega
            go_wp2_with (go_at_call 17; refine (days (1980 + (k : Int)) (1 + (j : Int)) _ hT (by omega) (by omega) (by omega) (by omega)).mono ?_; rintro e w' ⟨rfl, rfl⟩)
            go_round
            case rel => exact ⟨j + 1, by omega, by go_num, val_int (by have := HS.out; omega), by have := HS.out; omega⟩
            case measure => simp [intOf]; omega
          · obtain ⟨D, hD⟩ : ∃ D, D = n / 86400 - YF k - MF (1980 + (k : Int)) j := ⟨_, rfl⟩
            obtain ⟨hR, hsec⟩ := HP.out k j D hlt hj hD (by omega) (by omega)
            have hD31 := m1.2
            have HC := hid (show ∀ W, Tab W → Calls Tryd.prog 14 #[.agg #[.int .i64 (1980 + (k : Int)), .int .i64 (1 + (j : Int)), .int .i64 (D + 1), .int .i64 (n % 86400 / 3600), .int .i64 (n % 3600 / 60), .int .i64 (n % 60 / 2 * 2)]] W fun e w' => e = .returned (.tuple #[.int .u32 (ofI ⟨1980 + (k : Int), 1 + (j : Int), D + 1, n % 86400 / 3600, n % 3600 / 60, n % 60 / 2 * 2⟩), .bool true]) ∧ Below W.heap.size W w' from fun W h => by
              have := HOf.out ⟨1980 + (k : Int), 1 + (j : Int), D + 1, n % 86400 / 3600, n % 3600 / 60, n % 60 / 2 * 2⟩ W h (by constructor <;> simp only <;> omega)
              rw [HTO.out _ hR] at this
              exact this)
            have HFI := hid (show FromIs n (.tuple #[.int .u32 (ofI ⟨1980 + (k : Int), 1 + (j : Int), D + 1, n % 86400 / 3600, n % 3600 / 60, n % 60 / 2 * 2⟩), .bool true]) from ⟨fun h => by
              exfalso
              rcases h with h | h
              · omega
              · have b1 := HYS.out k
                have b2 : YF (k + 1) ≤ YF 128 := HYM.out _ _ (by omega)
                have b3 := HY9.out
                omega, fun _ _ => ⟨_, hR, hsec, rfl⟩⟩)
            generalize ofI ⟨1980 + (k : Int), 1 + (j : Int), D + 1, n % 86400 / 3600, n % 3600 / 60, n % 60 / 2 * 2⟩ = r at HC HFI
            clear hR hsec
            rw [← hD] at hge2 hj0 ⊢
            clear hD y0 hk0 hge m0 y1 hk
            go_wp2_with (go_at_call 17; refine (days (1980 + (k : Int)) (1 + (j : Int)) _ hT (by omega) (by omega) (by omega) (by omega)).mono ?_; rintro e w' ⟨rfl, rfl⟩)
            refine (HC.out _ hT).mono ?_
            rintro e w3 ⟨rfl, hB3⟩
            have HB3 := hid hB3; clear hB3
            go_wp2_with fail
            go_returns
            exact ⟨⟨_, rfl, HFI.out⟩, HB3.out⟩
    · obtain rfl : k = 128 := by omega
      go_wp2_with fail
      go_returns
      refine ⟨⟨_, rfl, ⟨fun _ => rfl, fun _ h => ?_⟩⟩, Below.refl _ _⟩
      have := HY9.out
      omega
end Go.Proofs.YtbcbimlcjcaegaaDoor
