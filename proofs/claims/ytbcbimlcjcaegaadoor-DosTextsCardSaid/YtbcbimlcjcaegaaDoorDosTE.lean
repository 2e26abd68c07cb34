/- DosTexts: the walk. -/
import Derived.Test.YtbcbimlcjcaegaaDoorDosTD
import Derived.Test.YtbcbimlcjcaegaaDoorDosV
namespace Go.Proofs.YtbcbimlcjcaegaaDoor
set_option linter.unusedVariables false
open Go.RowKit
open Go.Proofs.Dos
attribute [local go_sem ↓] Go.wp_at_zero Go.wp_at_succ

/-- A world that stands over another one. -/
structure On (w W : World) : Prop where
  tab : Tab W
  pow : Pow W
  errs : Errs W
  below : Below w.heap.size w W
theorem On.go {w W W' : World} (h : On w W) (hB : Below W.heap.size W W') : On w W' :=
  ⟨h.tab.step_ hB, h.pow.step hB, h.errs.step hB, h.below.trans (hB.mono h.below.size)⟩
theorem On.alloc {w W : World} (h : On w W) (o : Obj) : On w (W.alloc o) := h.go ((Below.refl _ _).alloc (Nat.le_refl _) _)

theorem told_text_yes {t : Int} (hR : RightT (splitI t)) : toldP (textB (splitI t)) = .tuple #[.int .u32 t, .bool true] := by
  unfold toldP
  rw [okP_text hR, nums_text hR.1, of_split]; rfl
theorem textB_no {x : T} (h : fitsB x = false) : textB x = ⟨#[]⟩ := by unfold textB; rw [h]; rfl
theorem told_text_no : toldP ⟨#[]⟩ = .tuple #[.int .u32 0, .bool false] := by
  have : okP ⟨#[]⟩ = false := by
    cases h : okP ⟨#[]⟩
    · rfl
    · exact absurd (okP_iff.1 h).1 (by decide)
  unfold toldP
  rw [this]; rfl
theorem toldP_ex (s : ByteArray) : ∃ (c : Int) (r : Bool), toldP s = .tuple #[.int .u32 c, .bool r] ∧ (r = true → RightT (nums s) ∧ textB (nums s) = s ∧ c = ofI (nums s)) ∧ (r = false → c = 0) ∧ 0 ≤ c ∧ c < 4294967296 := by
  cases h : okP s
  · exact ⟨0, false, by unfold toldP; rw [h]; rfl, (fun e => by cases e), fun _ => rfl, by decide, by decide⟩
  · obtain ⟨_, h2, h3⟩ := okP_iff.1 h
    exact ⟨_, true, by unfold toldP; rw [h]; rfl, fun _ => ⟨h2, h3, rfl⟩, (fun e => by cases e), ofI_bd h2⟩

set_option maxRecDepth 100000 in
set_option maxHeartbeats 8000000 in
theorem texts_walk (t : Int) (s : ByteArray) (w : World) (hT : Tab w) (hP : Pow w) (hE : Errs w) (h0 : 0 ≤ t) (h1 : t < 4294967296) (hs : s.size ≤ maxLen) :
    Calls Tryd.prog 5 #[.int .u32 t, .string s] w fun e w' => e = .returned (.bool true) ∧ Below w.heap.size w w' := by
  have HO0 := hid (show On w w from ⟨hT, hP, hE, Below.refl _ _⟩)
  have HS2 := hid (fun w => refSplit t w h0 h1)
  have HRR := hid (fun w => refRight (splitI t) w (split_ints h0 h1))
  have hrf := right_fits t
  rw [← hrf] at HRR
  clear hrf
  have HTX := hid (fun W (h : On w W) => text t W h.tab h.pow h0 h1)
  have HPS := hid (fun W (h : On w W) => parse s W hs h.tab h.pow h.errs)
  obtain ⟨c, r, e1, e2, e3, e4, e5⟩ := toldP_ex s
  rw [e1] at HPS
  clear e1
  have HYS := hid (fun w => refSplit c w e4 e5)
  cases hb : fitsB (splitI t)
  · rw [textB_no hb] at HTX
    have HPW := hid (fun W (h : On w W) => parse ⟨#[]⟩ W (by decide) h.tab h.pow h.errs)
    rw [told_text_no] at HPW
    rw [hb] at HRR
    clear hb
    unfold tV at HS2 HRR
    generalize splitI t = x at *
    cases r
    · have k := e3 rfl
      subst k
      clear e2 e3
      unfold tV at HYS
      generalize splitI 0 = y at *
      go_enter Tryd.func5, Tryd.ntmps5
      go_wp2_with fail
      refine (HS2.out _).mono ?_
      rintro e w1 ⟨rfl, hB⟩
      have O1 := hid ((HO0.out.go hB).alloc (.cells #[.int .i64 x.year, .int .i64 x.month, .int .i64 x.day, .int .i64 x.hour, .int .i64 x.minute, .int .i64 x.second] 24)); clear hB
      obtain ⟨c0, c1, c2, c3, c4, c5⟩ := six_ (heap_alloc_new w1 (.cells #[.int .i64 x.year, .int .i64 x.month, .int .i64 x.day, .int .i64 x.hour, .int .i64 x.minute, .int .i64 x.second] 24))
      go_wp2_with fail
      refine (HRR.out _).mono ?_
      rintro e w2 ⟨rfl, hB⟩
      have O2 := hid (O1.out.go hB)
      clear hB O1 c0 c1 c2 c3 c4 c5
      go_wp2_with fail
      have O3 := hid O2.out; clear O2
      refine (HPW.out _ O3.out).mono ?_
      rintro e w4 ⟨rfl, hB⟩
      have O4 := hid (O3.out.go hB); clear hB O3
      go_wp2_with fail
      refine (HPS.out _ O4.out).mono ?_
      rintro e w5 ⟨rfl, hB⟩
      have O5 := hid (O4.out.go hB); clear hB O4
      go_wp2_with fail
      refine (HYS.out _).mono ?_
      rintro e w6 ⟨rfl, hB⟩
      have O6 := hid ((O5.out.go hB).alloc (.cells #[.int .i64 y.year, .int .i64 y.month, .int .i64 y.day, .int .i64 y.hour, .int .i64 y.minute, .int .i64 y.second] 24)); clear hB O5
      go_wp2_with fail
      refine (HTX.out _ O6.out).mono ?_
      rintro e w7 ⟨rfl, hB⟩
      have O7 := hid (O6.out.go hB)
      clear hB O6
      go_wp2_with fail
      have O9 := hid O7.out; clear O7
      refine (lives _ O9.out.tab O9.out.pow).mono ?_
      rintro e w10 ⟨rfl, hB⟩
      have OZ := hid (O9.out.go hB); clear hB O9
      go_wp2_with fail
      go_ret
      exact ⟨rfl, OZ.out.below⟩
    · obtain ⟨k1, k2, k3⟩ := e2 rfl
      have HYR := hid (fun w => refRight (nums s) w (nums_ints s))
      rw [show decide (RightT (nums s)) = true from decide_eq_true k1] at HYR
      have HYT := hid (fun w => refText (nums s) w k1.1)
      rw [k2] at HYT
      rw [show splitI c = nums s by rw [k3, split_of k1]] at HYS
      clear e2 e3 k1 k2 k3
      unfold tV at HYS HYR HYT
      generalize nums s = y at *
      go_enter Tryd.func5, Tryd.ntmps5
      go_wp2_with fail
      refine (HS2.out _).mono ?_
      rintro e w1 ⟨rfl, hB⟩
      have O1 := hid ((HO0.out.go hB).alloc (.cells #[.int .i64 x.year, .int .i64 x.month, .int .i64 x.day, .int .i64 x.hour, .int .i64 x.minute, .int .i64 x.second] 24)); clear hB
      obtain ⟨c0, c1, c2, c3, c4, c5⟩ := six_ (heap_alloc_new w1 (.cells #[.int .i64 x.year, .int .i64 x.month, .int .i64 x.day, .int .i64 x.hour, .int .i64 x.minute, .int .i64 x.second] 24))
      go_wp2_with fail
      refine (HRR.out _).mono ?_
      rintro e w2 ⟨rfl, hB⟩
      have O2 := hid (O1.out.go hB)
      clear hB O1 c0 c1 c2 c3 c4 c5
      go_wp2_with fail
      have O3 := hid O2.out; clear O2
      refine (HPW.out _ O3.out).mono ?_
      rintro e w4 ⟨rfl, hB⟩
      have O4 := hid (O3.out.go hB); clear hB O3
      go_wp2_with fail
      refine (HPS.out _ O4.out).mono ?_
      rintro e w5 ⟨rfl, hB⟩
      have O5 := hid (O4.out.go hB); clear hB O4
      go_wp2_with fail
      refine (HYS.out _).mono ?_
      rintro e w6 ⟨rfl, hB⟩
      have O6 := hid ((O5.out.go hB).alloc (.cells #[.int .i64 y.year, .int .i64 y.month, .int .i64 y.day, .int .i64 y.hour, .int .i64 y.minute, .int .i64 y.second] 24)); clear hB O5
      have hy6 := heap_alloc_new w6 (.cells #[.int .i64 y.year, .int .i64 y.month, .int .i64 y.day, .int .i64 y.hour, .int .i64 y.minute, .int .i64 y.second] 24)
      go_wp2_with fail
      refine (HTX.out _ O6.out).mono ?_
      rintro e w7 ⟨rfl, hB⟩
      have O7 := hid (O6.out.go hB)
      have hy7 := (hB.block w6.heap.size (by simp)).trans hy6
      obtain ⟨d0, d1, d2, d3, d4, d5⟩ := six_ hy7
      have HY7 := hid hy7; clear hy6 hy7
      clear hB O6
      go_wp2_with fail
      refine (HYR.out _).mono ?_
      rintro e w8 ⟨rfl, hB⟩
      have O8 := hid (O7.out.go hB)
      have hy8 := (hB.block w6.heap.size (Array.getElem?_eq_some_iff.1 HY7.out).1).trans HY7.out
      clear hB O7 HY7 d0 d1 d2 d3 d4 d5
      obtain ⟨d0, d1, d2, d3, d4, d5⟩ := six_ hy8
      clear hy8
      go_wp2_with fail
      refine (HYT.out _).mono ?_
      rintro e w9 ⟨rfl, hB⟩
      have O9 := hid (O8.out.go hB); clear hB O8 d0 d1 d2 d3 d4 d5
      go_wp2_with fail
      refine (lives _ O9.out.tab O9.out.pow).mono ?_
      rintro e w10 ⟨rfl, hB⟩
      have OZ := hid (O9.out.go hB); clear hB O9
      go_wp2_with fail
      go_ret
      exact ⟨rfl, OZ.out.below⟩
  · have hR : RightT (splitI t) := split_fits.2 (fitsB_yes hb)
    have HQT := hid (fun w => refText (splitI t) w hR.1)
    have hsz := text_size hR.1
    have HPW := hid (fun W (h : On w W) => parse (textB (splitI t)) W (by rw [hsz]; decide) h.tab h.pow h.errs)
    rw [told_text_yes hR] at HPW
    have hne : (textB (splitI t)).toList.isEmpty = false := by
      rw [ByteArray.toList_eq]
      have h2 : (textB (splitI t)).data.toList.length = 19 := by rw [Array.length_toList]; exact hsz
      cases hl : (textB (splitI t)).data.toList
      · rw [hl] at h2; cases h2
      · rfl
    rw [hb] at HRR
    clear hb hR
    unfold tV at HS2 HRR HQT
    generalize textB (splitI t) = X at *
    generalize splitI t = x at *
    cases r
    · have k := e3 rfl
      subst k
      clear e2 e3
      unfold tV at HYS
      generalize splitI 0 = y at *
      go_enter Tryd.func5, Tryd.ntmps5
      go_wp2_with fail
      refine (HS2.out _).mono ?_
      rintro e w1 ⟨rfl, hB⟩
      have O1 := hid ((HO0.out.go hB).alloc (.cells #[.int .i64 x.year, .int .i64 x.month, .int .i64 x.day, .int .i64 x.hour, .int .i64 x.minute, .int .i64 x.second] 24)); clear hB
      obtain ⟨c0, c1, c2, c3, c4, c5⟩ := six_ (heap_alloc_new w1 (.cells #[.int .i64 x.year, .int .i64 x.month, .int .i64 x.day, .int .i64 x.hour, .int .i64 x.minute, .int .i64 x.second] 24))
      go_wp2_with fail
      refine (HRR.out _).mono ?_
      rintro e w2 ⟨rfl, hB⟩
      have O2 := hid (O1.out.go hB)
      obtain ⟨d0, d1, d2, d3, d4, d5⟩ := six_ ((hB.block w1.heap.size (by simp)).trans (heap_alloc_new w1 (.cells #[.int .i64 x.year, .int .i64 x.month, .int .i64 x.day, .int .i64 x.hour, .int .i64 x.minute, .int .i64 x.second] 24)))
      clear hB O1 c0 c1 c2 c3 c4 c5
      go_wp2_with fail
      refine (HQT.out _).mono ?_
      rintro e w3 ⟨rfl, hB⟩
      have O3 := hid (O2.out.go hB); clear hB O2 d0 d1 d2 d3 d4 d5
      go_wp2_with fail
      refine (HPW.out _ O3.out).mono ?_
      rintro e w4 ⟨rfl, hB⟩
      have O4 := hid (O3.out.go hB); clear hB O3
      go_wp2_with fail
      refine (HPS.out _ O4.out).mono ?_
      rintro e w5 ⟨rfl, hB⟩
      have O5 := hid (O4.out.go hB); clear hB O4
      go_wp2_with fail
      refine (HYS.out _).mono ?_
      rintro e w6 ⟨rfl, hB⟩
      have O6 := hid ((O5.out.go hB).alloc (.cells #[.int .i64 y.year, .int .i64 y.month, .int .i64 y.day, .int .i64 y.hour, .int .i64 y.minute, .int .i64 y.second] 24)); clear hB O5
      go_wp2_with fail
      refine (HTX.out _ O6.out).mono ?_
      rintro e w7 ⟨rfl, hB⟩
      have O7 := hid (O6.out.go hB)
      clear hB O6
      go_wp2_with fail
      have O9 := hid O7.out; clear O7
      refine (lives _ O9.out.tab O9.out.pow).mono ?_
      rintro e w10 ⟨rfl, hB⟩
      have OZ := hid (O9.out.go hB); clear hB O9
      go_wp2_with fail
      go_ret
      exact ⟨rfl, OZ.out.below⟩
    · obtain ⟨k1, k2, k3⟩ := e2 rfl
      have HYR := hid (fun w => refRight (nums s) w (nums_ints s))
      rw [show decide (RightT (nums s)) = true from decide_eq_true k1] at HYR
      have HYT := hid (fun w => refText (nums s) w k1.1)
      rw [k2] at HYT
      rw [show splitI c = nums s by rw [k3, split_of k1]] at HYS
      clear e2 e3 k1 k2 k3
      unfold tV at HYS HYR HYT
      generalize nums s = y at *
      go_enter Tryd.func5, Tryd.ntmps5
      go_wp2_with fail
      refine (HS2.out _).mono ?_
      rintro e w1 ⟨rfl, hB⟩
      have O1 := hid ((HO0.out.go hB).alloc (.cells #[.int .i64 x.year, .int .i64 x.month, .int .i64 x.day, .int .i64 x.hour, .int .i64 x.minute, .int .i64 x.second] 24)); clear hB
      obtain ⟨c0, c1, c2, c3, c4, c5⟩ := six_ (heap_alloc_new w1 (.cells #[.int .i64 x.year, .int .i64 x.month, .int .i64 x.day, .int .i64 x.hour, .int .i64 x.minute, .int .i64 x.second] 24))
      go_wp2_with fail
      refine (HRR.out _).mono ?_
      rintro e w2 ⟨rfl, hB⟩
      have O2 := hid (O1.out.go hB)
      obtain ⟨d0, d1, d2, d3, d4, d5⟩ := six_ ((hB.block w1.heap.size (by simp)).trans (heap_alloc_new w1 (.cells #[.int .i64 x.year, .int .i64 x.month, .int .i64 x.day, .int .i64 x.hour, .int .i64 x.minute, .int .i64 x.second] 24)))
      clear hB O1 c0 c1 c2 c3 c4 c5
      go_wp2_with fail
      refine (HQT.out _).mono ?_
      rintro e w3 ⟨rfl, hB⟩
      have O3 := hid (O2.out.go hB); clear hB O2 d0 d1 d2 d3 d4 d5
      go_wp2_with fail
      refine (HPW.out _ O3.out).mono ?_
      rintro e w4 ⟨rfl, hB⟩
      have O4 := hid (O3.out.go hB); clear hB O3
      go_wp2_with fail
      refine (HPS.out _ O4.out).mono ?_
      rintro e w5 ⟨rfl, hB⟩
      have O5 := hid (O4.out.go hB); clear hB O4
      go_wp2_with fail
      refine (HYS.out _).mono ?_
      rintro e w6 ⟨rfl, hB⟩
      have O6 := hid ((O5.out.go hB).alloc (.cells #[.int .i64 y.year, .int .i64 y.month, .int .i64 y.day, .int .i64 y.hour, .int .i64 y.minute, .int .i64 y.second] 24)); clear hB O5
      have hy6 := heap_alloc_new w6 (.cells #[.int .i64 y.year, .int .i64 y.month, .int .i64 y.day, .int .i64 y.hour, .int .i64 y.minute, .int .i64 y.second] 24)
      go_wp2_with fail
      refine (HTX.out _ O6.out).mono ?_
      rintro e w7 ⟨rfl, hB⟩
      have O7 := hid (O6.out.go hB)
      have hy7 := (hB.block w6.heap.size (by simp)).trans hy6
      obtain ⟨d0, d1, d2, d3, d4, d5⟩ := six_ hy7
      have HY7 := hid hy7; clear hy6 hy7
      clear hB O6
      go_wp2_with fail
      refine (HYR.out _).mono ?_
      rintro e w8 ⟨rfl, hB⟩
      have O8 := hid (O7.out.go hB)
      have hy8 := (hB.block w6.heap.size (Array.getElem?_eq_some_iff.1 HY7.out).1).trans HY7.out
      clear hB O7 HY7 d0 d1 d2 d3 d4 d5
      obtain ⟨d0, d1, d2, d3, d4, d5⟩ := six_ hy8
      clear hy8
      go_wp2_with fail
      refine (HYT.out _).mono ?_
      rintro e w9 ⟨rfl, hB⟩
      have O9 := hid (O8.out.go hB); clear hB O8 d0 d1 d2 d3 d4 d5
      go_wp2_with fail
      refine (lives _ O9.out.tab O9.out.pow).mono ?_
      rintro e w10 ⟨rfl, hB⟩
      have OZ := hid (O9.out.go hB); clear hB O9
      go_wp2_with fail
      go_ret
      exact ⟨rfl, OZ.out.below⟩
end Go.Proofs.YtbcbimlcjcaegaaDoor
