/- NodeRight: the law's walk. -/
import Derived.Test.YtbbjjhcpeablcaaDoorNodB
import Derived.Test.YtbbjjhcpeablcaaDoorNodC
namespace Go.Proofs.YtbbjjhcpeablcaaDoor
set_option linter.unusedVariables false
open Go.RowKit
open Go.Proofs.Dos
attribute [local go_sem ↓] Go.wp_at_zero Go.wp_at_succ
namespace Nod

theorem Tw.put {w W : World} {a b c d e f g h : Value} (k : Tw w W a b c d e f g h) (a' b' c' d' e' f' g' h' : Value) :
    Tw w ((((((((W.setCell ⟨w.heap.size, 0, none⟩ a').setCell ⟨w.heap.size, 1, none⟩ b').setCell ⟨w.heap.size, 2, none⟩ c').setCell ⟨w.heap.size, 3, none⟩ d').setCell ⟨w.heap.size + 1, 0, none⟩ e').setCell ⟨w.heap.size + 1, 1, none⟩ f').setCell ⟨w.heap.size + 1, 2, none⟩ g').setCell ⟨w.heap.size + 1, 3, none⟩ h') a' b' c' d' e' f' g' h' := by
  have o : ∀ (V : World) (k g i : Nat) (v : Value), k ≠ g → (V.setCell ⟨g, i, none⟩ v).heap[k]? = V.heap[k]? := fun V k g i v hn => heap_setCell_other V ⟨g, i, none⟩ k v hn
  refine ⟨?_, ?_, below4 (below4 k.below (Nat.le_refl _) _ _ _ _) (Nat.le_succ _) _ _ _ _⟩
  · rw [o _ _ _ _ _ (by omega), o _ _ _ _ _ (by omega), o _ _ _ _ _ (by omega), o _ _ _ _ _ (by omega)]
    exact row4 k.one _ _ _ _
  · refine row4 (x := e) (y := f) (z := g) (u := h) ?_ _ _ _ _
    rw [o _ _ _ _ _ (by omega), o _ _ _ _ _ (by omega), o _ _ _ _ _ (by omega), o _ _ _ _ _ (by omega)]
    exact k.two

set_option maxRecDepth 100000 in
set_option maxHeartbeats 4000000 in
theorem walk (k m t k' m' t' : Int) (d d' : ByteArray) (w : World) (hT : Tab w) (hd : d.size ≤ 9223372036854775807) (hd' : d'.size ≤ 9223372036854775807) (t0 : 0 ≤ t) (t1 : t < 4294967296) :
    Calls Tryd.prog 3 #[nodeV k m t d, nodeV k' m' t' d'] w fun e w' => e = .returned (.bool true) ∧ Below w.heap.size w w' := by
  have HT := hid hT
  have HC1 := hid (fun W => cut_ k m t d W hd)
  have HC2 := hid (fun W => cut_ k' m' t' d' W hd')
  have hl := cutB_le d
  have hl' := cutB_le d'
  have HTW := hid (tw_new w (.int .i64 k) (.int .i64 m) (.int .u32 t) (.string d) (.int .i64 k') (.int .i64 m') (.int .u32 t') (.string d'))
  clear hT hd hd'
  go_enter Tryd.func3, Tryd.ntmps3
  go_upto_region 1 with fail
  generalize (w.alloc (.cells #[.int .i64 k, .int .i64 m, .int .u32 t, .string d] 24)).alloc (.cells #[.int .i64 k', .int .i64 m', .int .u32 t', .string d'] 24) = W at HTW ⊢
  obtain ⟨a0, a1, a2, a3⟩ := four_cells HTW.out.one
  obtain ⟨b0, b1, b2, b3⟩ := four_cells HTW.out.two
  generalize cutB d = x at hl HC1
  generalize cutB d' = x' at hl' HC2
  go_cut [4] (fun v wx => v = .bool false ∧ Tw w wx (.int .i64 k) (.int .i64 m) (.int .u32 t) (.string x) (.int .i64 k') (.int .i64 m') (.int .u32 t') (.string x'))
  case first =>
    go_region_with (first
      | (have tok := K1.out; clear tok; go_at_call 4; refine (HC2.out _).mono ?_; rintro e w2 ⟨rfl, h⟩; have K2 := hid (K1.out.step h); have f0 := frozen_of_row w2 w.heap.size 0 _ _ K2.out.one; have f1 := frozen_of_row w2 w.heap.size 1 _ _ K2.out.one; have f2 := frozen_of_row w2 w.heap.size 2 _ _ K2.out.one; have f3 := frozen_of_row w2 w.heap.size 3 _ _ K2.out.one; have g0 := frozen_of_row w2 (w.heap.size + 1) 0 _ _ K2.out.two; have g1 := frozen_of_row w2 (w.heap.size + 1) 1 _ _ K2.out.two; have g2 := frozen_of_row w2 (w.heap.size + 1) 2 _ _ K2.out.two; have g3 := frozen_of_row w2 (w.heap.size + 1) 3 _ _ K2.out.two; obtain ⟨e0, e1, e2, e3⟩ := four_cells K2.out.one; obtain ⟨h0, h1, h2, h3⟩ := four_cells K2.out.two; clear h)
      | (go_at_call 4; refine (HC1.out _).mono ?_; rintro e w1 ⟨rfl, h⟩; have K1 := hid (HTW.out.drew.step h); obtain ⟨c0, c1, c2, c3⟩ := four_cells K1.out.one; obtain ⟨d0, d1, d2, d3⟩ := four_cells K1.out.two; clear h))
    all_goals
      go_wp2_with fail
      go_meet
      exact ⟨rfl, K2.out.put _ _ _ _ _ _ _ _⟩
  case rest =>
    obtain ⟨rfl, htw⟩ := hcut
    have K0 := hid htw
    clear htw HTW a0 a1 a2 a3 b0 b1 b2 b3 HC1 HC2
    have R1 := hid (fun W hW => right14 k m t x W hW hl t0 t1)
    have R2 := hid (fun W => ref14 k m t x W hl t0 t1)
    have P1 := hid (fun W => print k m t x W hl)
    have P2 := hid (fun W => refPrint k m t x W hl)
    have P3 := hid (fun W => refPrint k' m' t' x' W hl')
    have S1 := hid (fun W => same k m t k' m' t' x x' W hl hl')
    have hs0 : ∀ n s n' s', sameB k m t n s k' m' t' n' s' = decide (k = k' ∧ m = m' ∧ t = t' ∧ n = n' ∧ s = s') := fun _ _ _ _ => rfl
    generalize badN k m t x = bad at R1 R2
    have he2 := fun W => eq29 k m t k' m' t' (x.size : Int) (x'.size : Int) (sumB k x) (sumB k' x') W
    rw [← hs0] at he2
    generalize sameB k m t (x.size : Int) (sumB k x) k' m' t' (x'.size : Int) (sumB k' x') = S at S1 he2
    have he1 : ∀ W, (binOp BinOp.eql 29 (printV k m t (x.size : Int) (sumB k x)) (printV k m t (x.size : Int) (sumB k x))).run Tryd.prog W = .ok (.bool true) W := fun W => by
      rw [eq29]; simp
    have he3 := fun W => eq24 k m t k' m' t' x x' W
    have hw0 : wholeB k m t x k' m' t' x' = decide (k = k' ∧ m = m' ∧ t = t' ∧ x.toList = x'.toList) := rfl
    rw [← hw0] at he3
    have HWH := hid (fun W => whole k m t k' m' t' x x' W)
    generalize wholeB k m t x k' m' t' x' = B at HWH he3
    clear hs0 hw0 hl hl' t0 t1
    generalize (x.size : Int) = n at *
    generalize (x'.size : Int) = n' at *
    generalize sumB k x = s at *
    generalize sumB k' x' = s' at *
    have a0 := hid (four_cells K0.out.one)
    have b0 := hid (four_cells K0.out.two)
    go_upto_region 2 with fail
    go_region_held3 (fun W' => (W'.cell? ⟨w.heap.size, 0, none⟩ = some (.int .i64 k) ∧ W'.cell? ⟨w.heap.size, 1, none⟩ = some (.int .i64 m) ∧ W'.cell? ⟨w.heap.size, 2, none⟩ = some (.int .u32 t) ∧ W'.cell? ⟨w.heap.size, 3, none⟩ = some (.string x)) ∧
        (W'.cell? ⟨w.heap.size + 1, 0, none⟩ = some (.int .i64 k') ∧ W'.cell? ⟨w.heap.size + 1, 1, none⟩ = some (.int .i64 m') ∧ W'.cell? ⟨w.heap.size + 1, 2, none⟩ = some (.int .u32 t') ∧ W'.cell? ⟨w.heap.size + 1, 3, none⟩ = some (.string x')))
      (first | exact ⟨a0.out, b0.out⟩ | exact ⟨four_cells K9.out.one, four_cells K9.out.two⟩ | exact ⟨four_cells K8.out.one, four_cells K8.out.two⟩ | exact ⟨four_cells K7.out.one, four_cells K7.out.two⟩ | exact ⟨four_cells K6.out.one, four_cells K6.out.two⟩ | exact ⟨four_cells K5.out.one, four_cells K5.out.two⟩ | exact ⟨four_cells K4.out.one, four_cells K4.out.two⟩ | exact ⟨four_cells K3.out.one, four_cells K3.out.two⟩ | exact ⟨four_cells K2.out.one, four_cells K2.out.two⟩ | exact ⟨four_cells K1.out.one, four_cells K1.out.two⟩ | go_keep)
      (first
      | (have tok := K8.out; clear tok; go_at_call 11; refine (lives _).mono ?_; rintro e wq9 ⟨rfl, h⟩; have K9 := hid (K8.out.step h); clear h)
      | (have tok := K7.out; clear tok; go_at_call 10; refine (HWH.out _).mono ?_; rintro e wq8 ⟨rfl, h⟩; have K8 := hid (K7.out.step h); clear h)
      | (have tok := K6.out; clear tok; go_at_call 8; refine (P3.out _).mono ?_; rintro e wq7 ⟨rfl, h⟩; have K7 := hid (K6.out.step h); clear h)
      | (have tok := K5.out; clear tok; go_at_call 8; refine (P2.out _).mono ?_; rintro e wq6 ⟨rfl, h⟩; have K6 := hid (K5.out.step h); clear h)
      | (have tok := K4.out; clear tok; go_at_call 9; refine (S1.out _).mono ?_; rintro e wq5 ⟨rfl, h⟩; have K5 := hid (K4.out.step h); clear h)
      | (have tok := K3.out; clear tok; go_at_call 8; refine (P2.out _).mono ?_; rintro e wq4 ⟨rfl, h⟩; have K4 := hid (K3.out.step h); clear h)
      | (have tok := K2.out; clear tok; go_at_call 7; refine (P1.out _).mono ?_; rintro e wq3 ⟨rfl, h⟩; have K3 := hid (K2.out.step h); clear h)
      | (have tok := K1.out; clear tok; go_at_call 6; refine (R2.out _).mono ?_; rintro e wq2 ⟨rfl, h⟩; have K2 := hid (K1.out.step h); clear h)
      | (go_at_call 5; refine (R1.out _ (HT.out.below K0.out.drew.below HT.out.lt K0.out.drew.below.size)).mono ?_; rintro e wq1 ⟨rfl, h⟩; have K1 := hid (K0.out.drew.step h); clear h))
    go_wp2_with fail
    go_ret
    exact ⟨rfl, K9.out.below⟩
end Nod
end Go.Proofs.YtbbjjhcpeablcaaDoor
