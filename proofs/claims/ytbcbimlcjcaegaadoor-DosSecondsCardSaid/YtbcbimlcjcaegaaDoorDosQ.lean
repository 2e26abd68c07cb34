/- DosOrders: the walk. -/
import Derived.Test.YtbcbimlcjcaegaaDoorDosU
import Derived.Test.YtbcbimlcjcaegaaDoorDosN
namespace Go.Proofs.YtbcbimlcjcaegaaDoor
set_option linter.unusedVariables false
open Go.RowKit
open Go.Proofs.Dos
attribute [local go_sem ↓] Go.wp_at_zero Go.wp_at_succ

theorem secs_yes {x : T} (h : fitsB x = true) : toldSecs x = .tuple #[.int .i64 (secsI x), .bool true] := by unfold toldSecs; rw [h]; rfl
theorem secs_no {x : T} (h : fitsB x = false) : toldSecs x = .tuple #[.int .i64 0, .bool false] := by unfold toldSecs; rw [h]; rfl

set_option maxRecDepth 100000 in
set_option maxHeartbeats 4000000 in
theorem orders_walk (t u : Int) (w : World) (hT : Tab w) (hP : Pow w) (h0 : 0 ≤ t) (h1 : t < 4294967296) (g0 : 0 ≤ u) (g1 : u < 4294967296) :
    Calls Tryd.prog 6 #[.int .u32 t, .int .u32 u] w fun e w' => e = .returned (.bool true) ∧ Below w.heap.size w w' := by
  have HS1 := hid (fun w hT => seconds t w hT h0 h1)
  have HS2 := hid (fun w hT => seconds u w hT g0 g1)
  cases hb : fitsB (splitI t)
  · have HV := hid (secs_no hb)
    rw [HV.out] at HS1
    clear HV hb
    have h2 : ∃ (b : Int) (k : Bool), toldSecs (splitI u) = .tuple #[.int .i64 b, .bool k] ∧ (k = false → b = 0) := by
      cases hb : fitsB (splitI u)
      · exact ⟨_, _, secs_no hb, fun _ => rfl⟩
      · exact ⟨_, _, secs_yes hb, fun h => by cases h⟩
    obtain ⟨b, k, hv, hk⟩ := h2
    rw [hv] at HS2
    clear hv
    go_enter Tryd.func6, Tryd.ntmps6
    go_wp2_with fail
    refine (HS1.out _ hT).mono ?_
    rintro e w1 ⟨rfl, hB1⟩
    have HB1 := hid hB1; clear hB1
    go_wp2_with fail
    refine (HS2.out _ (hT.step HB1.out)).mono ?_
    rintro e w2 ⟨rfl, hB2⟩
    have HB2 := hid (HB1.out.trans (hB2.mono HB1.out.size)); clear hB2 HB1
    cases k
    · have hk0 := hk rfl
      subst hk0
      clear hk
      go_wp2_with fail
      refine (lives _ (hT.step HB2.out) (hP.step HB2.out)).mono ?_
      rintro e w3 ⟨rfl, hB3⟩
      have HB3 := hid (HB2.out.trans (hB3.mono HB2.out.size)); clear hB3 HB2
      go_wp2_with fail
      go_ret
      exact ⟨rfl, HB3.out⟩
    · clear hk
      go_wp2_with fail
      refine (lives _ (hT.step HB2.out) (hP.step HB2.out)).mono ?_
      rintro e w3 ⟨rfl, hB3⟩
      have HB3 := hid (HB2.out.trans (hB3.mono HB2.out.size)); clear hB3 HB2
      go_wp2_with fail
      go_ret
      exact ⟨rfl, HB3.out⟩
  · have hR1 : RightT (splitI t) := split_fits.2 (fitsB_yes hb)
    have HV := hid (secs_yes hb)
    rw [HV.out] at HS1
    have hs1 := secs_bd hR1.1
    clear HV hb
    cases hb : fitsB (splitI u)
    · have HV := hid (secs_no hb)
      rw [HV.out] at HS2
      clear HV hb hR1
      generalize secsI (splitI t) = a at HS1 hs1
      go_enter Tryd.func6, Tryd.ntmps6
      go_wp2_with fail
      refine (HS1.out _ hT).mono ?_
      rintro e w1 ⟨rfl, hB1⟩
      have HB1 := hid hB1; clear hB1
      go_wp2_with fail
      refine (HS2.out _ (hT.step HB1.out)).mono ?_
      rintro e w2 ⟨rfl, hB2⟩
      have HB2 := hid (HB1.out.trans (hB2.mono HB1.out.size)); clear hB2 HB1
      go_wp2_with fail
      refine (lives _ (hT.step HB2.out) (hP.step HB2.out)).mono ?_
      rintro e w3 ⟨rfl, hB3⟩
      have HB3 := hid (HB2.out.trans (hB3.mono HB2.out.size)); clear hB3 HB2
      go_wp2_with fail
      go_ret
      exact ⟨rfl, HB3.out⟩
    · have hR2 : RightT (splitI u) := split_fits.2 (fitsB_yes hb)
      have HV := hid (secs_yes hb)
      rw [HV.out] at HS2
      have hs2 := secs_bd hR2.1
      clear HV hb
      have ho := orders hR1 hR2
      rw [of_split, of_split] at ho
      have hF : ∀ v, FromIs (secsI (splitI t)) v → v = .tuple #[.int .u32 t, .bool true] := by
        intro v hv
        have e := secs_even hR1
        by_cases c : secsI (splitI t) < 46751 * 86400
        · obtain ⟨y, hy, hs, rfl⟩ := hv.yes hs1.1 c
          have := back hR1 hy hs
          rw [of_split] at this
          rw [this]
        · exfalso
          have hi := in_year hR1.1
          have hm := hR1.1.month
          have hmono := yearsN_mono (show ((splitI t).year - 1980).toNat + 1 ≤ 128 by omega)
          rw [years128] at hmono
          have hf := hR1.1
          obtain ⟨_, _, k3, k4, k5, k6, k7, k8⟩ := hf
          unfold secsI at c
          omega
      have HF := hid (fun w hT => from_ (secsI (splitI t)) w hT hs1.1 (by omega))
      have HFF := hid hF
      clear hF
      generalize secsI (splitI t) = a at HS1 hs1 ho HF HFF
      generalize secsI (splitI u) = b at HS2 hs2 ho
      have h3 : (t < u ∧ a < b) ∨ (t = u ∧ a = b) ∨ (u < t ∧ b < a) := by omega
      have H3 := hid h3
      clear ho h3 hR1 hR2
      go_enter Tryd.func6, Tryd.ntmps6
      go_wp2_with fail
      refine (HS1.out _ hT).mono ?_
      rintro e w1 ⟨rfl, hB1⟩
      have HB1 := hid hB1; clear hB1
      go_wp2_with fail
      refine (HS2.out _ (hT.step HB1.out)).mono ?_
      rintro e w2 ⟨rfl, hB2⟩
      have HB2 := hid (HB1.out.trans (hB2.mono HB1.out.size)); clear hB2 HB1
      go_wp2_with fail
      refine (HF.out _ (hT.step HB2.out)).mono ?_
      rintro e w3 ⟨⟨v, rfl, hv⟩, hB3⟩
      obtain rfl := HFF.out v hv
      have HB3 := hid (HB2.out.trans (hB3.mono HB2.out.size)); clear hB3 HB2 hv
      have H4 : (t < u ∧ a < b ∧ ¬ t = u ∧ ¬ a = b) ∨ (t = u ∧ a = b) ∨ (¬ t < u ∧ ¬ a < b ∧ ¬ t = u ∧ ¬ a = b) := by have := H3.out; omega
      clear H3
      rcases H4 with ⟨l1, l2, l3, l4⟩ | ⟨rfl, rfl⟩ | ⟨l1, l2, l3, l4⟩
      all_goals go_wp2_with fail
      all_goals first
        | (go_at_call 19
           refine (lives _ (hT.step HB3.out) (hP.step HB3.out)).mono ?_
           rintro e w4 ⟨rfl, hB4⟩
           have HB4 := hid (HB3.out.trans (hB4.mono HB3.out.size)); clear hB4
           go_wp2_with fail
           go_ret
           exact ⟨rfl, HB4.out⟩)
        | (rename_i hh
           have e1 : (t == u) = false := beq_false_of_ne l3
           have e2 : (a == b) = false := beq_false_of_ne l4
           exact absurd (e1.trans e2.symm) hh)
end Go.Proofs.YtbcbimlcjcaegaaDoor
