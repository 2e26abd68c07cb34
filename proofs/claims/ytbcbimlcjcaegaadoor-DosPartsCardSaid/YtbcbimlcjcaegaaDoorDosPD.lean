/- DosParts: the walk. -/
import Derived.Test.YtbcbimlcjcaegaaDoorDosP
namespace Go.Proofs.YtbcbimlcjcaegaaDoor
set_option linter.unusedVariables false
open Go.RowKit
open Go.Proofs.Dos
attribute [local go_sem ↓] Go.wp_at_zero Go.wp_at_succ

set_option maxRecDepth 100000 in
set_option maxHeartbeats 16000000 in
theorem parts_walk_0_0 (t : Int) (x : T) (p q : Int) (w : World) (hT : Tab w) (hP : Pow w) (h0 : 0 ≤ t) (h1 : t < 4294967296) (hx : Ints x)
    (hp0 : -9223372036854775808 ≤ p) (hp1 : p ≤ 9223372036854775807) (hq0 : -9223372036854775808 ≤ q) (hq1 : q ≤ 9223372036854775807) (hb : fitsB (splitI t) = false) (hr : decide (RightT x) = false) :
    Calls Tryd.prog 3 #[.int .u32 t, tV x, .agg #[.int .i64 p, .int .i64 q]] w fun e w' => e = .returned (.bool true) ∧ Below w.heap.size w w' := by
  have HS1 := hid (fun w hT => split t w hT h0 h1)
  have HS2 := hid (fun w => refSplit t w h0 h1)
  have HR1 := hid (fun w hT => right t w hT h0 h1)
  have HI := hid (split_ints h0 h1)
  have HRF := hid (right_fits t)
  generalize splitI t = a at HS1 HS2 HR1 HI HRF hb
  have HO1 := hid (fun w hT => of_ x w hT hx)
  have HR2 := hid (fun w => refRight x w hx)
  have HR3 := hid (fun w => refRight a w HI.out)
  have HO2 := hid (fun w (h : decide (RightT x) = true) => refOf x w (of_decide_eq_true h))
  have HD1 := hid (fun w hT => days p q w hT hp0 hp1 hq0 hq1)
  have HD2 := hid (fun w => refDays p q w hp0 hp1 hq0 hq1)
  generalize daysI p q = dd at HD1 HD2
  obtain ⟨c, r, e1, e2, e3, e4, e5, e6⟩ := of_ex x
  rw [hr] at e2
  subst e2
  rw [e1] at HO1
  rw [hr] at HR2 HO2
  have HX := hid (show tV x = .agg #[.int .i64 x.year, .int .i64 x.month, .int .i64 x.day, .int .i64 x.hour, .int .i64 x.minute, .int .i64 x.second] from rfl)
  have HA := hid (show tV a = .agg #[.int .i64 a.year, .int .i64 a.month, .int .i64 a.day, .int .i64 a.hour, .int .i64 a.minute, .int .i64 a.second] from rfl)
  clear e1
  have HS := hid (show told a = .tuple #[.agg #[.int .i64 0, .int .i64 0, .int .i64 0, .int .i64 0, .int .i64 0, .int .i64 0], .bool false] by unfold told; rw [hb]; rfl)
  rw [HS.out] at HS1
  rw [hb] at HR1 HRF
  rw [← HRF.out] at HR3
  clear hb HS HRF hr
  rw [HX.out]
  rw [HX.out] at HO1 HR2 HO2
  rw [HA.out] at HS2 HR3
  clear HX HA
  have hc := e4 rfl
  subst hc
  clear e3 e4 HO2 e5 e6
  go_enter Tryd.func3, Tryd.ntmps3
  go_upto_region 1 with fail
  go_wp2_with fail
  refine (HS1.out _ ((hT.alloc _).alloc _)).mono ?_
  rintro e w1 ⟨rfl, hB1⟩
  have HB1 := hid hB1; clear hB1
  have HB01 := hid ((((Below.refl w.heap.size w).alloc (Nat.le_refl _) (.cells #[.int .i64 x.year, .int .i64 x.month, .int .i64 x.day, .int .i64 x.hour, .int .i64 x.minute, .int .i64 x.second] 24)).alloc (by simp) (.cells #[.int .i64 p, .int .i64 q] 25)).trans (HB1.out.mono (by simp; omega)))
  have B4 := hid (((Blk.new w (tC x) 24).alloc (.cells #[.int .i64 p, .int .i64 q] 25)).step HB1.out)
  have B5 := hid ((Blk.new (w.alloc (.cells (tC x) 24)) #[.int .i64 p, .int .i64 q] 25).step HB1.out)
  have l1 := HB1.out.size
  have l1 : w.heap.size + 2 ≤ w1.heap.size := by simpa using l1
  clear HB1
  have es : (w.alloc (.cells (tC x) 24)).heap.size = w.heap.size + 1 := by simp
  rw [es] at B5
  clear es
  go_wp2_with fail
  refine (HS2.out _).mono ?_
  rintro e w2 ⟨rfl, hB2⟩
  have l2 := hB2.size
  have l2 : w1.heap.size + 1 ≤ w2.heap.size := by simpa using l2
  have HS4 := hid (show Set4 w (w2.alloc (.cells (tC a) 24)) w.heap.size (w.heap.size + 1) w1.heap.size w2.heap.size x nought a p q from
    ⟨((B4.out.alloc _).step hB2).alloc _, ((B5.out.alloc _).step hB2).alloc _, ((Blk.new w1 (tC nought) 26).step hB2).alloc _, Blk.new w2 (tC a) 24,
      ((HB01.out.alloc HB01.out.size _).trans (hB2.mono (by have := HB01.out.size; simp; omega))).alloc (by omega) _⟩)
  clear hB2 B4 B5 HB01
  go_upto_region 3 with fail
  have el : (w2.alloc (.cells #[.int .i64 a.year, .int .i64 a.month, .int .i64 a.day, .int .i64 a.hour, .int .i64 a.minute, .int .i64 a.second] 24)) = w2.alloc (.cells (tC a) 24) := rfl
  rw [el]
  clear el
  generalize w2.alloc (.cells (tC a) 24) = W at *
  generalize w2.heap.size = g9 at *
  generalize w1.heap.size = g7 at *
  obtain ⟨c0, c1, c2, c3, c4, c5⟩ := six4 HS4.out.b9
  go_wp2_with fail
  refine (HR3.out _).mono ?_
  rintro e w3 ⟨rfl, hB⟩
  have HS5 := hid (HS4.out.step hB); clear hB HS4 c0 c1 c2 c3 c4 c5
  obtain ⟨c0, c1, c2, c3, c4, c5, f0, f1, f2, f3, f4, f5⟩ := six HS5.out.b9
  obtain ⟨d0, d1, d2, d3, d4, d5⟩ := six4 HS5.out.b4
  go_wp2_with fail
  have HS6 := hid (HS5.out.set9 nought (by omega) (by omega) (by omega) (by omega))
  refine (HO1.out _ (hT.step HS6.out.below)).mono ?_
  rintro e w4 ⟨rfl, hB⟩
  have HS7 := hid (HS6.out.step hB); clear hB HS6 HS5 c0 c1 c2 c3 c4 c5 f0 f1 f2 f3 f4 f5 d0 d1 d2 d3 d4 d5
  obtain ⟨d0, d1, d2, d3, d4, d5⟩ := six4 HS7.out.b4
  go_wp2_with fail
  refine (HR2.out _).mono ?_
  rintro e w5 ⟨rfl, hB⟩
  have HS8 := hid (HS7.out.step hB); clear hB HS7 d0 d1 d2 d3 d4 d5
  obtain ⟨d0, d1, d2, d3, d4, d5⟩ := six4 HS8.out.b4
  have HS9 := hid HS8.out; clear HS8
  go_upto_region 10 with fail
  clear d0 d1 d2 d3 d4 d5
  have K0 := hid HS9.out
  have hTT := hT.step HS9.out.below
  have hPP := hP.step HS9.out.below
  have HTT := hid hTT
  have HPP := hid hPP
  clear hTT hPP
  obtain ⟨A0, A1, A2, A3, A4, A5, B0, B1, B2, B3, B4, B5, C0, C1, C2, C3, C4, C5, D0, D1⟩ := HS9.out.all
  clear HS9
  go_region_held3 (fun w' => w'.cell? ⟨g7, 0, none⟩ = some (.int .i64 0) ∧ w'.cell? ⟨g7, 1, none⟩ = some (.int .i64 0) ∧ w'.cell? ⟨g7, 2, none⟩ = some (.int .i64 0) ∧ w'.cell? ⟨g7, 3, none⟩ = some (.int .i64 0) ∧ w'.cell? ⟨g7, 4, none⟩ = some (.int .i64 0) ∧ w'.cell? ⟨g7, 5, none⟩ = some (.int .i64 0) ∧ w'.cell? ⟨g9, 0, none⟩ = some (.int .i64 0) ∧ w'.cell? ⟨g9, 1, none⟩ = some (.int .i64 0) ∧ w'.cell? ⟨g9, 2, none⟩ = some (.int .i64 0) ∧ w'.cell? ⟨g9, 3, none⟩ = some (.int .i64 0) ∧ w'.cell? ⟨g9, 4, none⟩ = some (.int .i64 0) ∧ w'.cell? ⟨g9, 5, none⟩ = some (.int .i64 0) ∧ w'.cell? ⟨w.heap.size, 0, none⟩ = some (.int .i64 x.year) ∧ w'.cell? ⟨w.heap.size, 1, none⟩ = some (.int .i64 x.month) ∧ w'.cell? ⟨w.heap.size, 2, none⟩ = some (.int .i64 x.day) ∧ w'.cell? ⟨w.heap.size, 3, none⟩ = some (.int .i64 x.hour) ∧ w'.cell? ⟨w.heap.size, 4, none⟩ = some (.int .i64 x.minute) ∧ w'.cell? ⟨w.heap.size, 5, none⟩ = some (.int .i64 x.second) ∧ w'.cell? ⟨w.heap.size + 1, 0, none⟩ = some (.int .i64 p) ∧ w'.cell? ⟨w.heap.size + 1, 1, none⟩ = some (.int .i64 q))
    (first | exact K5.out.all | exact K2.out.all | exact K1.out.all | exact ⟨A0, A1, A2, A3, A4, A5, B0, B1, B2, B3, B4, B5, C0, C1, C2, C3, C4, C5, D0, D1⟩ | go_keep)
    (first
      | (go_at_call 16; refine (HR1.out _ (by first | exact HTT.out | exact HTT.out.drew)).mono ?_; rintro e w7 ⟨rfl, hB⟩; have K1 := hid (show Set4 w w7 _ _ _ _ _ _ _ _ _ by first | exact K0.out.step hB | exact K0.out.drew.step hB); clear hB)
      | (go_at_call 13; refine (HR2.out _).mono ?_; rintro e w8 ⟨rfl, hB⟩; have K2 := hid (show Set4 w w8 _ _ _ _ _ _ _ _ _ by first | exact K1.out.step hB | exact K1.out.drew.step hB); clear hB)
      | (go_at_call 17; refine (HD1.out _ (by first | exact hT.step K2.out.below | exact (hT.step K2.out.below).drew)).mono ?_; rintro e w9 ⟨rfl, rfl⟩)
      | (go_at_call 18; refine (HD2.out _).mono ?_; rintro e w9 ⟨rfl, rfl⟩)
      | (go_at_call 19; refine (lives _ (by first | exact hT.step K2.out.below | exact (hT.step K2.out.below).drew) (by first | exact hP.step K2.out.below | exact (hP.step K2.out.below).drew)).mono ?_; rintro e w9 ⟨rfl, hB⟩; have K5 := hid (show Set4 w w9 _ _ _ _ _ _ _ _ _ by first | exact K2.out.step hB | exact K2.out.drew.step hB); clear hB))
  all_goals
    go_wp2_with fail
    go_ret
    exact ⟨rfl, by first | exact K5.out.below | exact K5.out.below.drew | exact below_drewN K5.out.below _⟩
end Go.Proofs.YtbcbimlcjcaegaaDoor
