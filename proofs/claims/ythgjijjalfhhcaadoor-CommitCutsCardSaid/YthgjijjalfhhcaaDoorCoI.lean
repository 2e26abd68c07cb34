/- CommitCuts: the law's walk. -/
import Derived.Test.YthgjijjalfhhcaaDoorCoH
namespace Go.Proofs.YthgjijjalfhhcaaDoor
set_option linter.unusedVariables false
open Go.RowKit
open Go.Proofs.Num
attribute [local go_sem ↓] Go.wp_at_zero Go.wp_at_succ
namespace Com
open Fld

set_option maxRecDepth 100000 in
set_option maxHeartbeats 2000000 in
theorem walkCuts (s : ByteArray) (n : Int) (w : World) (hs : s.size ≤ 9223372036854775807) :
    Calls Tryd.prog 4 #[.string s, .int .i64 n] w fun e w' => e = .returned (.bool true) ∧ Below w.heap.size w w' := by
  go_enter Tryd.func4, Tryd.ntmps4
  go_upto_region 1 with fail
  go_cut [0] (fun v wx => ∃ t : ByteArray, t.size ≤ 2000 ∧ v = .string t ∧ wx = w)
  case first =>
    go_wp2_with fail
    go_meet
    exact ⟨_, by simp; omega, rfl, rfl⟩
  case rest =>
    obtain ⟨t, ht, rfl, hw⟩ := hcut
    have hw' := hw.symm
    subst hw'
    clear hw
    clear hs
    obtain ⟨q, hq⟩ : ∃ q, (padB t).size = 512 * q := ⟨(padB t).size / 512, by have := need_whole t.size; rw [padB_size]; omega⟩
    have hq5 : q ≤ 5 := by
      have := padB_size t
      have h2 : needN t.size < 512 := Nat.mod_lt _ (by decide)
      omega
    have HRP := hid (fun W => refPad t W (by omega))
    have HPD := hid (fun W => pad t W (by omega))
    have HCT := hid (fun W => cut t q W (by omega) hq (by omega))
    have HPQ := hid hq
    clear hq ht
    generalize padB t = p at HRP HPD HCT HPQ
    obtain ⟨i0, hi, hz0, hz1, hz2⟩ := info_parts info9
    have HI := hid hi
    clear hi
    go_wp2_with fail
    refine (HRP.out _).mono ?_
    rintro e w1 ⟨rfl, rfl⟩
    go_wp2_with fail
    go_loopw [6, 7] (fun v i wr => ∃ k : Nat, k ≤ q ∧ i = .int .i64 ((512 * k : Nat) : Int) ∧ wr.ownsRow w.heap.size 9 1 v k ((parts p k).map Value.string) ∧ Below w.heap.size w wr) (fun _ i _ => p.size - (intOf i).toNat)
    case atStart => exact ⟨0, by omega, rfl, World.ownsRow_nil _ _ _ _, Below.refl _ _⟩
    case round =>
      obtain ⟨k, hk, rfl, hrow, hb⟩ := hrel
      have HR := hid hrow
      have HB := hid hb
      have hpz := HPQ.out
      clear hrow hb
      by_cases hlt : k < q
      · have HT := hid (parts_succ p k)
        have h1 : ((512 * k : Nat) : Int) < (p.size : Int) := by omega
        have h2 : ((512 * k : Nat) : Int) + 512 ≤ (p.size : Int) := by omega
        have h3 : (p.size : Int) ≤ 512000 := by omega
        obtain ⟨m, hm⟩ : ∃ m, 512 * k = m := ⟨_, rfl⟩
        have HM := hid hm
        rw [hm] at HT h1 h2 ⊢
        clear hm hpz
        go_wp2_with (at_builtin; (refine wpList_append_own _ rfl _ _ 34 rfl w.heap.size 9 i0 (.string ⟨#[]⟩) 1 16 Tryd.underlying34 HI.out hz0 hz1 hz2 rfl (by decide) _ k _ rfl (HR.out.alloc _) ⟨wr.heap.size, 0, none⟩ 1 1 [.string (p.extract m (m + 512))] rfl rfl (cell_one_new _ _ _) (by simp [Value.oneCell']) (by unfold maxLen; omega) (by omega) (by have := HB.out.size; simp; omega) ?_); intro v' w1 hown' hgrow _; have HO := hid hown'; have HG := hid hgrow; clear hown' hgrow)
        exact ⟨⟨k + 1, by omega, by have := HM.out; go_num, by rw [HT.out, List.map_append]; exact HO.out,
          HB.out.trans ((((Below.refl w.heap.size wr).alloc HB.out.size _).grown HG.out (by have := HB.out.size; simp; omega) fun j ej => (HR.out.lt j ej).1))⟩, by simp [intOf]; omega⟩
      · obtain rfl : k = q := by omega
        have h1 : ¬ ((512 * k : Nat) : Int) < (p.size : Int) := by omega
        have HTX := hid (txts_of (parts_length p k) HR.out)
        clear hpz HR
        go_upto_region 9 with fail
        have hK0 : 0 ≤ max 0 (min n 1099511627776) := Int.le_max_left _ _
        have hK1 : max 0 (min n 1099511627776) ≤ 1099511627776 := by omega
        have hsec : secI n = (max 0 (min n 1099511627776) + 511) / 512 := by unfold secI; omega
        generalize max 0 (min n 1099511627776) = K at hK0 hK1 hsec ⊢
        have e1 : K.tmod 512 = K % 512 := Int.tmod_eq_emod_of_nonneg hK0
        have e2 : K.tdiv 512 = K / 512 := Int.tdiv_eq_ediv_of_nonneg hK0
        by_cases hr : 0 < K % 512
        · have HSC := hid (fun W => sectors n W)
          have e3 : secI n = K / 512 + 1 := by omega
          rw [e3] at HSC
          clear hsec e3
          go_wp2_with fail
          refine (HPD.out _).mono ?_
          rintro e w2 ⟨rfl, b2⟩
          have B2 := hid (HB.out.trans (b2.mono HB.out.size))
          have X2 := hid (HTX.out.step b2)
          clear b2
          go_wp2_with fail
          refine (HCT.out _).mono ?_
          rintro e w3 ⟨v, n₁, rfl, ho, b3⟩
          have B3 := hid (B2.out.trans (b3.mono B2.out.size))
          have X3 := hid (X2.out.step b3)
          have Y3 := hid (txts_of (parts_length p k) ho)
          clear b3 ho
          go_wp2_with fail
          refine (same _ _ (parts p k) _ Y3.out X3.out (by rw [parts_length]; omega)).mono ?_
          rintro e w4 ⟨rfl, b4⟩
          have B4 := hid (B3.out.trans (b4.mono B3.out.size))
          clear b4
          go_wp2_with fail
          refine (HSC.out _).mono ?_
          rintro e w5 ⟨rfl, rfl⟩
          go_wp2_with fail
          refine (lives _).mono ?_
          rintro e w6 ⟨rfl, b6⟩
          have B6 := hid (B4.out.trans (b6.mono B4.out.size))
          clear b6
          go_wp2_with fail
          go_ret
          exact ⟨rfl, B6.out⟩
        · have HSC := hid (fun W => sectors n W)
          have e3 : secI n = K / 512 := by omega
          rw [e3] at HSC
          clear hsec e3
          go_wp2_with fail
          refine (HPD.out _).mono ?_
          rintro e w2 ⟨rfl, b2⟩
          have B2 := hid (HB.out.trans (b2.mono HB.out.size))
          have X2 := hid (HTX.out.step b2)
          clear b2
          go_wp2_with fail
          refine (HCT.out _).mono ?_
          rintro e w3 ⟨v, n₁, rfl, ho, b3⟩
          have B3 := hid (B2.out.trans (b3.mono B2.out.size))
          have X3 := hid (X2.out.step b3)
          have Y3 := hid (txts_of (parts_length p k) ho)
          clear b3 ho
          go_wp2_with fail
          refine (same _ _ (parts p k) _ Y3.out X3.out (by rw [parts_length]; omega)).mono ?_
          rintro e w4 ⟨rfl, b4⟩
          have B4 := hid (B3.out.trans (b4.mono B3.out.size))
          clear b4
          go_wp2_with fail
          refine (HSC.out _).mono ?_
          rintro e w5 ⟨rfl, rfl⟩
          go_wp2_with fail
          refine (lives _).mono ?_
          rintro e w6 ⟨rfl, b6⟩
          have B6 := hid (B4.out.trans (b6.mono B4.out.size))
          clear b6
          go_wp2_with fail
          go_ret
          exact ⟨rfl, B6.out⟩
end Com
end Go.Proofs.YthgjijjalfhhcaaDoor
