/- WALKS: texts of times; the document's example. -/
import Derived.Test.YtbcbimlcjcaegaaDoorDosT
import Derived.Deep.DeepCutAuto
import Derived.Deep.RegionHeld3
import Derived.Test.YtbcbimlcjcaegaaDoorDosO
namespace Go.Proofs.YtbcbimlcjcaegaaDoor
set_option linter.unusedVariables false
open Go.RowKit
open Go.Proofs.Dos
attribute [local go_sem ↓] Go.wp_at_zero Go.wp_at_succ

/-- The text of a time, of its parts as natural numbers. -/
def full (y m d h n s : Nat) : ByteArray :=
  four y ++ ⟨#[45]⟩ ++ two m ++ ⟨#[45]⟩ ++ two d ++ ⟨#[32]⟩ ++ two h ++ ⟨#[58]⟩ ++ two n ++ ⟨#[58]⟩ ++ two s
/-- The text of a time. -/
def textB (x : T) : ByteArray := if fitsB x then full x.year.toNat x.month.toNat x.day.toNat x.hour.toNat x.minute.toNat x.second.toNat else ⟨#[]⟩

set_option maxRecDepth 100000 in
set_option maxHeartbeats 4000000 in
theorem text (t : Int) (w : World) (hT : Tab w) (hP : Pow w) (h0 : 0 ≤ t) (h1 : t < 4294967296) :
    Calls Tryd.prog 25 #[.int .u32 t] w fun e w' => e = .returned (.string (textB (splitI t))) ∧ Below w.heap.size w w' := by
  have HS0 := hid (fun w hT => split t w hT h0 h1)
  generalize splitI t = x at HS0 ⊢
  cases hb : fitsB x
  · have HV := hid (show textB x = ⟨#[]⟩ by unfold textB; rw [hb]; rfl)
    have HS := hid (show told x = .tuple #[.agg #[.int .i64 0, .int .i64 0, .int .i64 0, .int .i64 0, .int .i64 0, .int .i64 0], .bool false] by unfold told; rw [hb]; rfl)
    rw [HS.out] at HS0
    rw [HV.out]
    clear hb HS HV
    go_enter Tryd.func25, Tryd.ntmps25
    go_wp2_with fail
    refine (HS0.out _ hT).mono ?_
    rintro e w1 ⟨rfl, hB1⟩
    have HB1 := hid hB1; clear hB1
    go_wp2_with fail
    go_returns
    exact ⟨rfl, HB1.out.alloc HB1.out.size _⟩
  · have hf := fitsB_yes hb
    have HS := hid (show told x = .tuple #[tV x, .bool true] by unfold told; rw [hb]; rfl)
    rw [HS.out] at HS0
    have HV := hid (show textB x = full x.year.toNat x.month.toNat x.day.toNat x.hour.toNat x.minute.toNat x.second.toNat by unfold textB; rw [hb]; rfl)
    rw [HV.out]
    have hm := hf.month
    obtain ⟨q1, q2, q3, q4, q5, q6, q7, q8⟩ := hf
    clear hb HS HV q2
    obtain ⟨y, m, d, h, n, s⟩ := x
    simp only [tV] at *
    obtain ⟨y, rfl⟩ := Int.eq_ofNat_of_zero_le (show 0 ≤ y by omega)
    obtain ⟨m, rfl⟩ := Int.eq_ofNat_of_zero_le (show 0 ≤ m by omega)
    obtain ⟨d, rfl⟩ := Int.eq_ofNat_of_zero_le (show 0 ≤ d by omega)
    obtain ⟨h, rfl⟩ := Int.eq_ofNat_of_zero_le q3
    obtain ⟨n, rfl⟩ := Int.eq_ofNat_of_zero_le q5
    obtain ⟨s, rfl⟩ := Int.eq_ofNat_of_zero_le q7
    simp only [Int.toNat_natCast]
    have HFU := hid (show full y m d h n s = four y ++ ⟨#[45]⟩ ++ two m ++ ⟨#[45]⟩ ++ two d ++ ⟨#[32]⟩ ++ two h ++ ⟨#[58]⟩ ++ two n ++ ⟨#[58]⟩ ++ two s from rfl)
    generalize full y m d h n s = R at HFU ⊢
    have HY := hid (fun w hP => padded4 y (by omega) (by omega) w hP)
    have HM := hid (fun w => padded2 m (by omega) w)
    have HD := hid (fun w => padded2 d (by omega) w)
    have HH := hid (fun w => padded2 h (by omega) w)
    have HN := hid (fun w => padded2 n (by omega) w)
    have HS := hid (fun w => padded2 s (by omega) w)
    have s1 := four_size y
    have s2 := two_size m
    have s3 := two_size d
    have s4 := two_size h
    have s5 := two_size n
    have s6 := two_size s
    generalize four y = Y4 at HFU HY s1
    generalize two m = M2 at HFU HM s2
    generalize two d = D2 at HFU HD s3
    generalize two h = H2 at HFU HH s4
    generalize two n = N2 at HFU HN s5
    generalize two s = S2 at HFU HS s6
    go_enter Tryd.func25, Tryd.ntmps25
    go_wp2_with fail
    refine (HS0.out _ hT).mono ?_
    rintro e w1 ⟨rfl, hB1⟩
    have HB1 := hid hB1; clear hB1 HS0
    have HP1 := hid (hP.step HB1.out)
    have hrow := heap_alloc_new w1 (.cells #[.int .i64 (y : Int), .int .i64 (m : Int), .int .i64 (d : Int), .int .i64 (h : Int), .int .i64 (n : Int), .int .i64 (s : Int)] 26)
    have HR := hid (show ∀ w', Below (w1.heap.size + 1) (w1.alloc (.cells #[.int .i64 (y : Int), .int .i64 (m : Int), .int .i64 (d : Int), .int .i64 (h : Int), .int .i64 (n : Int), .int .i64 (s : Int)] 26)) w' → _ from fun w' hB => six_ ((hB.block w1.heap.size (by omega)).trans hrow))
    clear hrow
    go_upto_region 4 with fail
    have HP2 := hid (HP1.out.alloc (.cells #[.int .i64 (y : Int), .int .i64 (m : Int), .int .i64 (d : Int), .int .i64 (h : Int), .int .i64 (n : Int), .int .i64 (s : Int)] 26))
    have HB2 := hid (HB1.out.alloc HB1.out.size (.cells #[.int .i64 (y : Int), .int .i64 (m : Int), .int .i64 (d : Int), .int .i64 (h : Int), .int .i64 (n : Int), .int .i64 (s : Int)] 26))
    have hsz : (w1.alloc (.cells #[.int .i64 (y : Int), .int .i64 (m : Int), .int .i64 (d : Int), .int .i64 (h : Int), .int .i64 (n : Int), .int .i64 (s : Int)] 26)).heap.size = w1.heap.size + 1 := by simp
    obtain ⟨c0, c1, c2, c3, c4, c5⟩ := HR.out _ (Below.refl _ _)
    generalize w1.alloc (.cells #[.int .i64 (y : Int), .int .i64 (m : Int), .int .i64 (d : Int), .int .i64 (h : Int), .int .i64 (n : Int), .int .i64 (s : Int)] 26) = W at *
    generalize w1.heap.size = g at *
    go_region_held3 (fun w' => w'.cell? ⟨g, 0, none⟩ = some (.int .i64 (y : Int)) ∧ w'.cell? ⟨g, 1, none⟩ = some (.int .i64 (m : Int)) ∧ w'.cell? ⟨g, 2, none⟩ = some (.int .i64 (d : Int)) ∧ w'.cell? ⟨g, 3, none⟩ = some (.int .i64 (h : Int)) ∧ w'.cell? ⟨g, 4, none⟩ = some (.int .i64 (n : Int)) ∧ w'.cell? ⟨g, 5, none⟩ = some (.int .i64 (s : Int)))
      (first | exact ⟨c0, c1, c2, c3, c4, c5⟩ | exact K1.out.1 | go_keep)
      (first
        | (have tok := K5.out; clear tok; go_at_call 53; refine (HS.out _).mono ?_; rintro e w' ⟨rfl, rfl⟩; have K6 := hid trivial)
        | (have tok := K4.out; clear tok; go_at_call 53; refine (HN.out _).mono ?_; rintro e w' ⟨rfl, rfl⟩; have K5 := hid trivial)
        | (have tok := K3.out; clear tok; go_at_call 53; refine (HH.out _).mono ?_; rintro e w' ⟨rfl, rfl⟩; have K4 := hid trivial)
        | (have tok := K2.out; clear tok; go_at_call 53; refine (HD.out _).mono ?_; rintro e w' ⟨rfl, rfl⟩; have K3 := hid trivial)
        | (have tok := K1.out; clear tok; go_at_call 53; refine (HM.out _).mono ?_; rintro e w' ⟨rfl, rfl⟩; have K2 := hid trivial)
        | (go_at_call 53; refine (HY.out _ (by first | exact HP2.out | exact HP2.out.drew)).mono ?_; rintro e w5 ⟨rfl, hB5⟩; have K1 := hid (And.intro (HR.out _ (by rw [← hsz]; first | exact hB5 | exact ((Below.refl _ W).drew).trans hB5)) (show Below W.heap.size W w5 by first | exact hB5 | exact ((Below.refl _ W).drew).trans hB5)); clear hB5))
    all_goals
      go_wp2_with fail
      go_ret
      refine ⟨ret_str HFU.out.symm, ?_⟩
      first | exact HB2.out.trans (K1.out.2.mono HB2.out.size) | exact (HB2.out.trans (K1.out.2.mono HB2.out.size)).drew | exact below_drewN (HB2.out.trans (K1.out.2.mono HB2.out.size)) _

theorem fits_1980 : fitsB (splitI 2162688) = true := by decide
theorem text_1980 : textB (splitI 2162688) = ⟨#[49, 57, 56, 48, 45, 48, 49, 45, 48, 49, 32, 48, 48, 58, 48, 48, 58, 48, 48]⟩ := by decide +kernel

set_option maxRecDepth 100000 in
/-- The document's example is as it says. -/
theorem lives (w : World) (hT : Tab w) (hP : Pow w) : Calls Tryd.prog 19 #[] w fun e w' => e = .returned (.bool true) ∧ Below w.heap.size w w' := by
  have H1 := hid (text 2162688 w hT hP (by decide) (by decide))
  rw [text_1980] at H1
  have H2 := hid (fun w hT => right 2162688 w hT (by decide) (by decide))
  rw [fits_1980] at H2
  go_enter Tryd.func19, Tryd.ntmps19
  go_wp2_with fail
  refine H1.out.mono ?_
  rintro e w1 ⟨rfl, hB1⟩
  have HB1 := hid hB1; clear hB1
  go_wp2_with fail
  refine (H2.out _ (hT.step HB1.out)).mono ?_
  rintro e w2 ⟨rfl, hB2⟩
  have HB2 := hid hB2; clear hB2
  go_wp2_with fail
  go_ret
  exact ⟨rfl, HB1.out.trans (HB2.out.mono HB1.out.size)⟩
end Go.Proofs.YtbcbimlcjcaegaaDoor
