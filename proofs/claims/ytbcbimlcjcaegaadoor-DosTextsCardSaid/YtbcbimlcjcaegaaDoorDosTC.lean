/- WALKS: the time of a text; the document's own text. -/
import Derived.Test.YtbcbimlcjcaegaaDoorDosTB
import Derived.Deep.DeepCutAuto
import Derived.Deep.RegionHeld3
namespace Go.Proofs.YtbcbimlcjcaegaaDoor
set_option linter.unusedVariables false
open Go.RowKit
open Go.Proofs.Dos
attribute [local go_sem ↓] Go.wp_at_zero Go.wp_at_succ

theorem bytes_ne {a b : ByteArray} (h : ¬ a = b) : (a.toList == b.toList) = false := by
  rw [ByteArray.toList_eq, ByteArray.toList_eq]
  exact beq_false_of_ne fun e => h (ByteArray.ext (Array.toList_inj.1 e))

set_option maxRecDepth 100000 in
set_option maxHeartbeats 4000000 in
theorem parse_long (s : ByteArray) (w : World) (h19 : s.size = 19) (hT : Tab w) (hP : Pow w) (hE : Errs w) :
    Calls Tryd.prog 24 #[.string s] w fun e w' => e = .returned (toldP s) ∧ Below w.heap.size w w' := by
  have HN1 := hid (fun W (h : Par w W s) => number s 0 4 w.heap.size W (by decide) (by omega) h19 h.box.cell h.errs)
  have HN2 := hid (fun W (h : Par w W s) => number s 5 7 w.heap.size W (by decide) (by omega) h19 h.box.cell h.errs)
  have HN3 := hid (fun W (h : Par w W s) => number s 8 10 w.heap.size W (by decide) (by omega) h19 h.box.cell h.errs)
  have HN4 := hid (fun W (h : Par w W s) => number s 11 13 w.heap.size W (by decide) (by omega) h19 h.box.cell h.errs)
  have HN5 := hid (fun W (h : Par w W s) => number s 14 16 w.heap.size W (by decide) (by omega) h19 h.box.cell h.errs)
  have HN6 := hid (fun W (h : Par w W s) => number s 17 19 w.heap.size W (by decide) (by omega) h19 h.box.cell h.errs)
  have HI := nums_ints s
  have HOF := hid (fun W hT => of_ (nums s) W hT HI)
  have HV := hid (show toldP s = if okP s then .tuple #[.int .u32 (ofI (nums s)), .bool true] else .tuple #[.int .u32 0, .bool false] from rfl)
  have HOK := hid (@okP_iff s)
  have HTX := hid (fun (hR : RightT (nums s)) W hT hP => text (ofI (nums s)) W hT hP (ofI_bd hR).1 (ofI_bd hR).2)
  have HSP := hid (fun (hR : RightT (nums s)) => split_of hR)
  have HBD := hid (fun (hR : RightT (nums s)) => ofI_bd hR)
  have HX := hid (show tV (nums s) = .agg #[.int .i64 (numB (s.extract 0 4)), .int .i64 (numB (s.extract 5 7)), .int .i64 (numB (s.extract 8 10)), .int .i64 (numB (s.extract 11 13)), .int .i64 (numB (s.extract 14 16)), .int .i64 (numB (s.extract 17 19))] from rfl)
  clear HI
  rw [HX.out] at HOF
  clear HX
  generalize nums s = x at *
  obtain ⟨c, r, e1, e2, e3, e4, e5, e6⟩ : ∃ (c : Int) (r : Bool), toldOf x = .tuple #[.int .u32 c, .bool r] ∧ (r = true ↔ RightT x) ∧ (r = true → c = ofI x) ∧ (r = false → c = 0) ∧ 0 ≤ c ∧ c < 4294967296 := by
    by_cases h : RightT x
    · exact ⟨_, _, toldOf_yes h, ⟨fun _ => h, fun _ => rfl⟩, fun _ => rfl, (fun e => by cases e), ofI_bd h⟩
    · exact ⟨_, _, toldOf_no h, ⟨(fun e => by cases e), fun e => absurd e h⟩, (fun e => by cases e), fun _ => rfl, by decide, by decide⟩
  rw [e1] at HOF
  clear e1
  have HPA := hid (par_new w s hE hT hP)
  generalize numB (s.extract 0 4) = v1 at *
  generalize numB (s.extract 5 7) = v2 at *
  generalize numB (s.extract 8 10) = v3 at *
  generalize numB (s.extract 11 13) = v4 at *
  generalize numB (s.extract 14 16) = v5 at *
  generalize numB (s.extract 17 19) = v6 at *
  generalize toldP s = V at *
  have HE2 := hid e2
  have HE3 := hid e3
  have HE4 := hid e4
  clear e2 e3 e4
  go_enter Tryd.func24, Tryd.ntmps24
  go_wp2_with fail
  refine (HN1.out _ HPA.out).mono ?_
  rintro e w1 ⟨rfl, hB1⟩
  have P1 := hid (HPA.out.step hB1); clear hB1 HPA
  go_wp2_with fail
  refine (HN2.out _ P1.out).mono ?_
  rintro e w2 ⟨rfl, hB⟩
  have P2 := hid (P1.out.step hB); clear hB P1
  go_wp2_with fail
  refine (HN3.out _ P2.out).mono ?_
  rintro e w3 ⟨rfl, hB⟩
  have P3 := hid (P2.out.step hB); clear hB P2
  go_wp2_with fail
  refine (HN4.out _ P3.out).mono ?_
  rintro e w4 ⟨rfl, hB⟩
  have P4 := hid (P3.out.step hB); clear hB P3
  go_wp2_with fail
  refine (HN5.out _ P4.out).mono ?_
  rintro e w5 ⟨rfl, hB⟩
  have P5 := hid (P4.out.step hB); clear hB P4
  go_wp2_with fail
  refine (HN6.out _ P5.out).mono ?_
  rintro e w6 ⟨rfl, hB⟩
  have P6 := hid (P5.out.step hB); clear hB P5
  go_wp2_with fail
  refine (HOF.out _ P6.out.tab).mono ?_
  rintro e w7 ⟨rfl, hB⟩
  have P7 := hid (P6.out.step hB); clear hB P6
  have hc := P7.out.box.cell
  clear HN1 HN2 HN3 HN4 HN5 HN6 HOF
  cases r
  · have HQ := hid (show V = .tuple #[.int .u32 0, .bool false] by
      rw [HV.out]
      have : okP s = false := by
        cases h : okP s
        · rfl
        · have := (HOK.out.1 h).2.1
          exact absurd (HE2.out.2 this) (by decide)
      rw [this]; rfl)
    clear HV HOK HTX HSP HE2 HE3 HE4
    go_wp2_with fail
    go_quiet (fail)
    go_wp2_with fail
    go_returns
    exact ⟨by rw [HQ.out]; rfl, below_drewN P7.out.below _⟩
  · have hR := HE2.out.1 rfl
    have hcx := HE3.out rfl
    have HTT := hid (fun W hT hP => HTX.out hR W hT hP)
    rw [HSP.out hR, ← hcx] at HTT
    by_cases ht : textB x = s
    · have HQ := hid (show V = .tuple #[.int .u32 c, .bool true] by
        rw [HV.out, HOK.out.2 ⟨h19, hR, ht⟩, hcx]; rfl)
      rw [ht] at HTT
      clear HV HOK HTX HSP HE2 HE3 HE4 ht hcx hR
      go_wp2_with fail
      go_region_held3 (fun w' => w'.cell? ⟨w.heap.size, 0, none⟩ = some (.string s))
        (first | exact hc | exact K1.out.box.cell | go_keep)
        ((go_at_call 25; refine (HTT.out _ (by first | exact P7.out.tab | exact ⟨P7.out.tab.lt, P7.out.tab.cells⟩) (by first | exact P7.out.pow | exact (show Pow w7 from P7.out.pow))).mono ?_; rintro e w8 ⟨rfl, hB⟩; have K1 := hid (show Par w w8 s by first | exact P7.out.step hB | exact P7.out.step (((Below.refl _ w7).drew).trans hB)); clear hB))
      all_goals
        go_wp2_with fail
        go_returns
        exact ⟨by rw [HQ.out]; rfl, by first | exact K1.out.below | exact K1.out.below.drew | exact below_drewN K1.out.below _⟩
    · have HQ := hid (show V = .tuple #[.int .u32 0, .bool false] by
        rw [HV.out]
        have : okP s = false := by
          cases h : okP s
          · rfl
          · exact absurd (HOK.out.1 h).2.2 ht
        rw [this]; rfl)
      clear HV HOK HTX HSP HE2 HE3 HE4 hcx hR
      have hne := bytes_ne ht
      generalize textB x = tx at *
      go_wp2_with fail
      go_region_held3 (fun w' => w'.cell? ⟨w.heap.size, 0, none⟩ = some (.string s))
        (first | exact hc | exact K1.out.box.cell | go_keep)
        ((go_at_call 25; refine (HTT.out _ (by first | exact P7.out.tab | exact ⟨P7.out.tab.lt, P7.out.tab.cells⟩) (by first | exact P7.out.pow | exact (show Pow w7 from P7.out.pow))).mono ?_; rintro e w8 ⟨rfl, hB⟩; have K1 := hid (show Par w w8 s by first | exact P7.out.step hB | exact P7.out.step (((Below.refl _ w7).drew).trans hB)); clear hB))
      all_goals
        go_wp2_with fail
        go_returns
        exact ⟨by rw [HQ.out]; rfl, by first | exact K1.out.below | exact K1.out.below.drew | exact below_drewN K1.out.below _⟩

theorem parse (s : ByteArray) (w : World) (hs : s.size ≤ maxLen) (hT : Tab w) (hP : Pow w) (hE : Errs w) :
    Calls Tryd.prog 24 #[.string s] w fun e w' => e = .returned (toldP s) ∧ Below w.heap.size w w' := by
  by_cases h : s.size = 19
  · exact parse_long s w h hT hP hE
  · refine (parse_short s w hs h).mono ?_
    rintro e w' ⟨rfl, hB⟩
    refine ⟨?_, hB⟩
    have : okP s = false := by
      cases h2 : okP s
      · rfl
      · exact absurd (okP_iff.1 h2).1 h
    unfold toldP
    rw [this]; rfl

theorem und79 : Tryd.prog.underlying 79 = some (.slice 5) := by kernel_rfl
theorem conv_two (n : Nat) (h : n < 100) (w : World) : (convert 79 9 (.slice (some ⟨w.heap.size, 0, none⟩) 2 2)).run Tryd.prog (w.alloc (.cells #[.int .u8 (48 + (n : Int) / 10), .int .u8 (48 + (n : Int) % 10)] 5)) = .ok (.string (two n)) (w.alloc (.cells #[.int .u8 (48 + (n : Int) / 10), .int .u8 (48 + (n : Int) % 10)] 5)) := by
  refine run_convert_bytes_back _ 79 9 5 ⟨w.heap.size, 0, none⟩ 2 [UInt8.ofNat (48 + n / 10), UInt8.ofNat (48 + n % 10)] und79 Tryd.underlying5 Tryd.underlying9 ?_
  intro j hj
  have hadd : (⟨w.heap.size, 0, none⟩ : Addr).add j = ⟨w.heap.size, j, none⟩ := by unfold Addr.add; split <;> simp_all
  rw [hadd, cell_of_row _ _ _ _ _ _ (heap_alloc_new _ _)]
  have : j = 0 ∨ j = 1 := by simp at hj; omega
  rcases this with rfl | rfl
  · have e : (UInt8.ofNat (48 + n / 10)).toNat = 48 + n / 10 := by simp; omega
    simp only [List.getElem_cons_zero, e]
    show some (Value.int .u8 (48 + (n : Int) / 10)) = _
    congr 2
  · have e : (UInt8.ofNat (48 + n % 10)).toNat = 48 + n % 10 := by simp; omega
    simp only [List.getElem_cons_succ, List.getElem_cons_zero, e]
    show some (Value.int .u8 (48 + (n : Int) % 10)) = _
    congr 2

set_option maxRecDepth 100000 in
theorem refTwo (n : Nat) (h : n < 100) (w : World) :
    Calls Tryd.prog 50 #[.int .i64 (n : Int)] w fun e w' => e = .returned (.string (two n)) ∧ Below w.heap.size w w' := by
  have hc := conv_two n h w
  have e1 : (n : Int) / 10 % 10 = (n : Int) / 10 := by omega
  generalize two n = R at *
  go_enter Tryd.func50, Tryd.ntmps50
  go_wp2_with fail
  go_ret
  exact ⟨rfl, (Below.refl _ _).alloc (Nat.le_refl _) _⟩
end Go.Proofs.YtbcbimlcjcaegaaDoor
