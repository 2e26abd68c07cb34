/- HuffCodes: the walk. -/
import Derived.Test.YthgjijjalfhhcaaHufQ
namespace Go.Proofs.Ythgjijjalfhhcaa
set_option linter.unusedVariables false
open Go.RowKit
open Go.Proofs.Huf
namespace Huff

/-- Two rows of codes that are alike. -/
structure Pair (w W : World) (Q R : Option Addr) (g : Nat → Nat) (M : Nat) : Prop where
  below : Below w.heap.size w W
  row : ∀ i, i < M → ∃ C D, Q = some ⟨C, 0, none⟩ ∧ R = some ⟨D, 0, none⟩ ∧ W.cell? ⟨C, i, none⟩ = some (.int .u32 (codeAt g M i : Nat)) ∧ W.cell? ⟨D, i, none⟩ = some (.int .u32 (codeAt g M i : Nat))
theorem Pair.drewN {w W : World} {Q R : Option Addr} {g : Nat → Nat} {M : Nat} (h : Pair w W Q R g M) (n : Nat) : Pair w (W.drewN n) Q R g M :=
  ⟨⟨h.below.os, h.below.tape, h.below.output, h.below.size, h.below.block⟩, h.row⟩
theorem pair_of {w w1 w2 : World} {Q R : Option Addr} {g : Nat → Nat} {M : Nat}
    (h1 : 0 < M → ∃ C, w.heap.size ≤ C ∧ Q = some ⟨C, 0, none⟩ ∧ w1.heap[C]? = some (.cells (cdV g M M) 23 (0, 0))) (b1 : Below w.heap.size w w1)
    (h2 : 0 < M → ∃ C, w1.heap.size ≤ C ∧ R = some ⟨C, 0, none⟩ ∧ w2.heap[C]? = some (.cells (cdV g M M) 23 (0, 0))) (b2 : Below w1.heap.size w1 w2) : Pair w w2 Q R g M := by
  refine ⟨b1.trans (b2.mono b1.size), fun i hi => ?_⟩
  obtain ⟨C, _, rfl, hc⟩ := h1 (by omega)
  obtain ⟨D, _, rfl, hd⟩ := h2 (by omega)
  have hc2 := (b2.block C (Array.getElem?_eq_some_iff.1 hc).1).trans hc
  refine ⟨C, D, rfl, rfl, ?_, ?_⟩
  · rw [cell_of_row _ _ _ _ _ _ hc2, cdV_at _ _ _ _ hi, if_pos hi]
  · rw [cell_of_row _ _ _ _ _ _ hd, cdV_at _ _ _ _ hi, if_pos hi]

set_option maxRecDepth 100000 in
set_option maxHeartbeats 2000000 in
theorem walkCodes (A : Option Addr) (b off len cap code : Nat) (n : Int) (x : Nat → Int) (w : World) (hA : 0 < len → A = some ⟨b, off, none⟩) (hx : Ints w b off len x) (hm : len ≤ 9223372036854775807)
    (hc : code < 4294967296) (hn0 : -9223372036854775808 ≤ n) (hn1 : n ≤ 9223372036854775807) :
    Calls Try.prog 3 #[.slice A len cap, .int .u32 (code : Int), .int .i64 n] w fun e w' => e = .returned (.bool true) ∧ Below w.heap.size w w' := by
  obtain ⟨M, K, hL⟩ := lens_any A b off len cap x hA hm
  have HX := hid hx
  have HL := hid hL
  have hM := hL.le
  clear hx hL
  by_cases h400 : 400 < len
  · have h400i : decide (400 < (len : Int)) = true := by rw [decide_eq_true_iff]; omega
    go_enter Try.func3, Try.ntmps3
    go_wp2_with fail
    refine (lives _).mono ?_
    rintro e w1 ⟨rfl, hb1⟩
    have H1 := hid hb1
    clear hb1
    go_wp2_with fail
    go_ret
    exact ⟨rfl, H1.out⟩
  · have h400i : decide (400 < (len : Int)) = false := by rw [decide_eq_false_iff_not]; omega
    go_enter Try.func3, Try.ntmps3
    go_wp2_with fail
    refine (HL.out.codes _ HX.out).mono ?_
    rintro e w1 ⟨Q, rfl, hQ, hb1⟩
    have HX1 := hid (HX.out.below hb1)
    have HQ := hid hQ
    have HB1 := hid hb1
    clear hQ hb1
    go_wp2_with fail
    refine (HL.out.refs _ HX1.out).mono ?_
    rintro e w2 ⟨R, rfl, hR, hb2⟩
    have HX2 := hid (HX1.out.below hb2)
    have HP := hid (pair_of HQ.out HB1.out hR hb2)
    clear hR hb2 HQ HX1 HB1
    go_wp2_with fail
    go_loopw [23] (fun i wr => ∃ j : Nat, j ≤ M ∧ i = .int .i64 j ∧ Pair w wr Q R (natOf x) M) (fun i _ => M - (intOf i).toNat)
    case atStart => exact ⟨0, by omega, rfl, HP.out⟩
    case round =>
      obtain ⟨j, hj, rfl, hp⟩ := hrel
      have HW := hid hp
      clear hp HP
      by_cases hlt : j < M
      · obtain ⟨C, D, hq, hr, c0, d0⟩ := HW.out.row j hlt
        subst hq hr
        have g0 : decide ((M : Int) ≤ (j : Int)) = false := by rw [decide_eq_false_iff_not]; omega
        have g1 : decide (M ≤ j) = false := by rw [decide_eq_false_iff_not]; omega
        go_upto_region 7 with fail
        go_quiet (fail)
        go_wp2_with fail
        go_roundw
        case rel => exact ⟨j + 1, by omega, by go_num, HW.out.drewN _⟩
        case measure => simp [intOf]; omega
      · go_upto_region 10 with fail
        go_cut [10, 43, 44] (fun s _ _ wx => s = .int .i64 (longN n : Nat) ∧ wx = wr)
        case first =>
          go_wp2_with fail
          all_goals go_meet
          all_goals exact ⟨val_int (by unfold longN; omega), rfl⟩
        case rest =>
          obtain ⟨rfl, hw⟩ := hcut
          have hw' := hw.symm
          subst hw'
          clear hw
          have hl32 := longN_le n
          have HT := hid (turned code n)
          generalize longN n = k at hl32 HT ⊢
          go_wp2_with fail
          go_loop [11, 12, 47] (fun a v i => ∃ d : Nat, d ≤ k ∧ i = .int .i64 d ∧ a = .int .u32 (turn code d : Nat) ∧ v = .int .u32 ((code / 2 ^ d : Nat) : Int)) (fun _ _ i => k - (intOf i).toNat)
          case atStart => exact ⟨0, by omega, rfl, rfl, val_int (by simp)⟩
          case round =>
            obtain ⟨d, hd, rfl, rfl, rfl⟩ := hrel
            have HTS := hid (show turn code (d + 1) = 2 * turn code d + code / 2 ^ d % 2 from rfl)
            have HVS := hid (show code / 2 ^ (d + 1) = code / 2 ^ d / 2 from by rw [Nat.pow_succ, Nat.div_div_eq_div_mul])
            have ht := turn_lt code d
            have hv : code / 2 ^ d < 4294967296 := Nat.lt_of_le_of_lt (Nat.div_le_self _ _) hc
            by_cases hdk : d < k
            · have hp : 2 ^ d ≤ 2147483648 := Nat.le_trans (Nat.pow_le_pow_right (by decide) (show d ≤ 31 by omega)) (by decide)
              generalize turn code d = a at ht HTS ⊢
              generalize code / 2 ^ d = v at hv HTS HVS ⊢
              have hai : (a : Int) < 2147483648 := by omega
              have hvi : (v : Int) < 4294967296 := by omega
              have HWW := hid (show (2 * (a : Int) + (v : Int) % 2) = ((turn code (d + 1) : Nat) : Int) from by rw [HTS.out]; omega)
              clear ht hp hv
              go_wp2_with fail
              go_round
              case rel => exact ⟨d + 1, by omega, by go_num, val_int HWW.out, val_int (by rw [HVS.out]; omega)⟩
              case measure => simp [intOf]; omega
            · obtain rfl : d = k := by omega
              clear ht hv
              go_wp2_with fail
              refine (HL.out.kind _ (HX.out.below HW.out.below)).mono ?_
              rintro e w3 ⟨rfl, hb3⟩
              have H3 := hid (HW.out.below.trans (hb3.mono HW.out.below.size))
              clear hb3
              go_wp2_with fail
              refine (HL.out.refKind _ (HX.out.below H3.out)).mono ?_
              rintro e w4 ⟨rfl, rfl⟩
              go_wp2_with fail
              refine (HT.out _ hc hn0 hn1).mono ?_
              rintro e w5 ⟨rfl, rfl⟩
              go_wp2_with fail
              refine (lives _).mono ?_
              rintro e w6 ⟨rfl, hb6⟩
              have H6 := hid (H3.out.trans (hb6.mono H3.out.size))
              clear hb6
              go_wp2_with fail
              go_ret
              exact ⟨rfl, H6.out⟩
end Huff
end Go.Proofs.Ythgjijjalfhhcaa
