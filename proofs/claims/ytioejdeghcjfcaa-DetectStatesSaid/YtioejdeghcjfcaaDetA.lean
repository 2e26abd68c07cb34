/- DetectStates: nodes and prints as values; the simple walks. -/
import Derived.Test.YtioejdeghcjfcaaSumO
import Derived.Deep.DrawnRows
import Derived.Deep.DeepCutAuto
import Derived.Deep.RegionHeld3
import Derived.Deep.QuietTactic
namespace Go.Proofs.Ytioejdeghcjfcaa
set_option linter.unusedVariables false
open Go.RowKit
open Sm (hid)
attribute [local go_sem ↓] Go.wp_at_zero Go.wp_at_succ
namespace Nod

abbrev nodeV (k m t : Int) (d : ByteArray) : Value := .agg #[.int .i64 k, .int .i64 m, .int .u32 t, .string d]
abbrev printV (k m t n s : Int) : Value := .agg #[.int .i64 k, .int .i64 m, .int .u32 t, .int .i64 n, .int .u32 s]

theorem size29 : (Try.prog.info? 24).map (·.size) = some 5 := by kernel_rfl

theorem eq29 (k m t k' m' t' n n' s s' : Int) (w : World) : (binOp BinOp.eql 24 (printV k m t n s) (printV k' m' t' n' s')).run Try.prog w = .ok (.bool (decide (k = k' ∧ m = m' ∧ t = t' ∧ n = n' ∧ s = s'))) w := by
  by_cases h1 : k = k' <;> by_cases h2 : m = m' <;> by_cases h3 : t = t' <;> by_cases h4 : n = n' <;> by_cases h5 : s = s' <;> simp [go_sem, h1, h2, h3, h4, h5]

theorem four_cells {w : World} {E : Nat} {a b c d : Value} {T : TypeId} (h : w.heap[E]? = some (.cells #[a, b, c, d] T (0, 0))) :
    w.cell? ⟨E, 0, none⟩ = some a ∧ w.cell? ⟨E, 1, none⟩ = some b ∧ w.cell? ⟨E, 2, none⟩ = some c ∧ w.cell? ⟨E, 3, none⟩ = some d := by
  refine ⟨?_, ?_, ?_, ?_⟩ <;> (rw [cell_of_row _ _ _ _ _ _ h]; rfl)
theorem row4 {w : World} {g : Nat} {T : TypeId} {x y z u : Value} (h : w.heap[g]? = some (.cells #[x, y, z, u] T (0, 0))) (a b c d : Value) :
    ((((w.setCell ⟨g, 0, none⟩ a).setCell ⟨g, 1, none⟩ b).setCell ⟨g, 2, none⟩ c).setCell ⟨g, 3, none⟩ d).heap[g]? = some (.cells #[a, b, c, d] T (0, 0)) := by
  have h1 := heap_setCell_same w g 0 _ T a h
  have h2 := heap_setCell_same _ g 1 _ T b h1
  have h3 := heap_setCell_same _ g 2 _ T c h2
  exact heap_setCell_same _ g 3 _ T d h3
theorem below4 {a w : World} {g : Nat} (h : Below a.heap.size a w) (hg : a.heap.size ≤ g) (x y z u : Value) : Below a.heap.size a ((((w.setCell ⟨g, 0, none⟩ x).setCell ⟨g, 1, none⟩ y).setCell ⟨g, 2, none⟩ z).setCell ⟨g, 3, none⟩ u) :=
  (((h.setCell hg x).setCell hg y).setCell hg z).setCell hg u
theorem row_step {W W' : World} {g : Nat} {o : Obj} (h : W.heap[g]? = some o) (hb : Below W.heap.size W W') : W'.heap[g]? = some o := (hb.block g (Array.getElem?_eq_some_iff.1 h).1).trans h
theorem five_cells {w : World} {E : Nat} {a b c d e : Value} {T : TypeId} (h : w.heap[E]? = some (.cells #[a, b, c, d, e] T (0, 0))) :
    w.cell? ⟨E, 0, none⟩ = some a ∧ w.cell? ⟨E, 1, none⟩ = some b ∧ w.cell? ⟨E, 2, none⟩ = some c ∧ w.cell? ⟨E, 3, none⟩ = some d ∧ w.cell? ⟨E, 4, none⟩ = some e := by
  refine ⟨?_, ?_, ?_, ?_, ?_⟩ <;> (rw [cell_of_row _ _ _ _ _ _ h]; rfl)
theorem row5 {w : World} {g : Nat} {T : TypeId} {x y z u v : Value} (h : w.heap[g]? = some (.cells #[x, y, z, u, v] T (0, 0))) (a b c d e : Value) :
    (((((w.setCell ⟨g, 0, none⟩ a).setCell ⟨g, 1, none⟩ b).setCell ⟨g, 2, none⟩ c).setCell ⟨g, 3, none⟩ d).setCell ⟨g, 4, none⟩ e).heap[g]? = some (.cells #[a, b, c, d, e] T (0, 0)) := by
  have h1 := heap_setCell_same w g 0 _ T a h
  have h2 := heap_setCell_same _ g 1 _ T b h1
  have h3 := heap_setCell_same _ g 2 _ T c h2
  have h4 := heap_setCell_same _ g 3 _ T d h3
  exact heap_setCell_same _ g 4 _ T e h4
theorem below5 {a w : World} {g : Nat} (h : Below a.heap.size a w) (hg : a.heap.size ≤ g) (x y z u v : Value) : Below a.heap.size a (((((w.setCell ⟨g, 0, none⟩ x).setCell ⟨g, 1, none⟩ y).setCell ⟨g, 2, none⟩ z).setCell ⟨g, 3, none⟩ u).setCell ⟨g, 4, none⟩ v) :=
  ((((h.setCell hg x).setCell hg y).setCell hg z).setCell hg u).setCell hg v

/-- Three blocks: a node; what goes out; the print that is made. -/
structure Th (w W : World) (k m t : Int) (d : ByteArray) (x0 x1 x2 x3 x4 : Value) : Prop where
  one : W.heap[w.heap.size]? = some (.cells #[.int .i64 k, .int .i64 m, .int .u32 t, .string d] 26 (0, 0))
  two : W.heap[w.heap.size + 1]? = some (.cells #[.int .i64 0, .int .i64 0, .int .u32 0, .int .i64 0, .int .u32 0] 24 (0, 0))
  three : W.heap[w.heap.size + 2]? = some (.cells #[x0, x1, x2, x3, x4] 24 (0, 0))
  below : Below w.heap.size w W
theorem th_new (w : World) (k m t : Int) (d : ByteArray) (x0 x1 x2 x3 x4 : Value) :
    Th w (((w.alloc (.cells #[.int .i64 k, .int .i64 m, .int .u32 t, .string d] 26)).alloc (.cells #[.int .i64 0, .int .i64 0, .int .u32 0, .int .i64 0, .int .u32 0] 24)).alloc (.cells #[x0, x1, x2, x3, x4] 24)) k m t d x0 x1 x2 x3 x4 := by
  refine ⟨?_, ?_, ?_, (((Below.refl _ _).alloc (Nat.le_refl _) _).alloc (by simp) _).alloc (by simp; omega) _⟩
  · exact (Below.heap_alloc _ _ _ (by simp; omega)).trans ((Below.heap_alloc _ _ _ (by simp)).trans (heap_alloc_new _ _))
  · have := heap_alloc_new (w.alloc (.cells #[.int .i64 k, .int .i64 m, .int .u32 t, .string d] 26)) (.cells #[.int .i64 0, .int .i64 0, .int .u32 0, .int .i64 0, .int .u32 0] 24)
    rw [World.size_alloc] at this
    exact (Below.heap_alloc _ _ _ (by simp)).trans this
  · have := heap_alloc_new ((w.alloc (.cells #[.int .i64 k, .int .i64 m, .int .u32 t, .string d] 26)).alloc (.cells #[.int .i64 0, .int .i64 0, .int .u32 0, .int .i64 0, .int .u32 0] 24)) (.cells #[x0, x1, x2, x3, x4] 24)
    simp only [World.size_alloc] at this
    exact this
theorem Th.step {w W W' : World} {k m t : Int} {d : ByteArray} {x0 x1 x2 x3 x4 : Value} (h : Th w W k m t d x0 x1 x2 x3 x4) (hb : Below W.heap.size W W') : Th w W' k m t d x0 x1 x2 x3 x4 :=
  ⟨row_step h.one hb, row_step h.two hb, row_step h.three hb, h.below.trans (hb.mono h.below.size)⟩
theorem Th.set {w W : World} {k m t : Int} {d : ByteArray} {x0 x1 x2 x3 x4 : Value} (h : Th w W k m t d x0 x1 x2 x3 x4) (y : Value) : Th w (W.setCell ⟨w.heap.size + 2, 4, none⟩ y) k m t d x0 x1 x2 x3 y :=
  ⟨(heap_setCell_other _ ⟨w.heap.size + 2, 4, none⟩ _ _ (by show _ ≠ w.heap.size + 2; omega)).trans h.one, (heap_setCell_other _ ⟨w.heap.size + 2, 4, none⟩ _ _ (by show _ ≠ w.heap.size + 2; omega)).trans h.two, heap_setCell_same _ _ 4 _ _ y h.three, h.below.setCell (p := ⟨w.heap.size + 2, 4, none⟩) (by show w.heap.size ≤ w.heap.size + 2; omega) _⟩

/-- A node's sum, in its print. -/
def sumB (k : Int) (d : ByteArray) : Int := if k = 1 then Sm.ofI d.data.toList else 0

set_option maxRecDepth 100000 in
set_option maxHeartbeats 2000000 in
theorem print (k m t : Int) (d : ByteArray) (w : World) (hd : d.size ≤ 2000) :
    Calls Try.prog 8 #[nodeV k m t d] w fun e w' => e = .returned (printV k m t (d.size : Int) (sumB k d)) ∧ Below w.heap.size w w' := by
  have HT := hid (th_new w k m t d (.int .i64 k) (.int .i64 m) (.int .u32 t) (.int .i64 (d.size : Int)) (.int .u32 0))
  go_enter Try.func8, Try.ntmps8
  go_upto_region 2 with fail
  generalize ((w.alloc (.cells #[.int .i64 k, .int .i64 m, .int .u32 t, .string d] 26)).alloc (.cells #[.int .i64 0, .int .i64 0, .int .u32 0, .int .i64 0, .int .u32 0] 24)).alloc (.cells #[.int .i64 k, .int .i64 m, .int .u32 t, .int .i64 (d.size : Int), .int .u32 0] 24) = W at HT ⊢
  obtain ⟨a0, a1, a2, a3⟩ := four_cells HT.out.one
  by_cases h : k = 1
  · have HS := hid (show sumB k d = Sm.ofI d.data.toList from if_pos h)
    subst h
    go_wp2_with fail
    refine (Sm.of_ d _ (by unfold maxLen; omega)).mono ?_
    rintro e w1 ⟨rfl, hb⟩
    have HT1 := hid (HT.out.step hb)
    obtain ⟨S, hS⟩ : ∃ S, Sm.ofI d.data.toList = S := ⟨_, rfl⟩
    rw [hS] at HS ⊢
    clear hS a0 a1 a2 a3 HT hb
    obtain ⟨c0, c1, c2, c3, c4⟩ := five_cells HT1.out.three
    have f4 := frozen_of_row w1 (w.heap.size + 2) 4 _ _ HT1.out.three
    go_upto_region 4 with fail
    have HT2 := hid (HT1.out.set (.int .u32 S))
    clear c0 c1 c2 c3 c4 f4 HT1
    generalize w1.setCell ⟨w.heap.size + 2, 4, none⟩ (.int .u32 S) = W2 at HT2 ⊢
    obtain ⟨c0, c1, c2, c3, c4⟩ := five_cells HT2.out.three
    obtain ⟨b0, b1, b2, b3, b4⟩ := five_cells HT2.out.two
    have f0 := frozen_of_row W2 (w.heap.size + 1) 0 _ _ HT2.out.two
    have f1 := frozen_of_row W2 (w.heap.size + 1) 1 _ _ HT2.out.two
    have f2 := frozen_of_row W2 (w.heap.size + 1) 2 _ _ HT2.out.two
    have f3 := frozen_of_row W2 (w.heap.size + 1) 3 _ _ HT2.out.two
    have f4 := frozen_of_row W2 (w.heap.size + 1) 4 _ _ HT2.out.two
    go_wp2_with fail
    exact bodyPost_ret (results_cell_row (fn := Try.f8) rfl _ _ (w.heap.size + 1) 24 _ (0, 0) _ rfl (row5 HT2.out.two _ _ _ _ _) Try.underlying24 rfl size29) rfl ⟨by rw [HS.out], below5 HT2.out.below (by omega) _ _ _ _ _⟩
  · have HS := hid (show sumB k d = 0 from if_neg h)
    have h' : (k == 1) = false := by simp [h]
    obtain ⟨c0, c1, c2, c3, c4⟩ := five_cells HT.out.three
    obtain ⟨b0, b1, b2, b3, b4⟩ := five_cells HT.out.two
    have f0 := frozen_of_row W (w.heap.size + 1) 0 _ _ HT.out.two
    have f1 := frozen_of_row W (w.heap.size + 1) 1 _ _ HT.out.two
    have f2 := frozen_of_row W (w.heap.size + 1) 2 _ _ HT.out.two
    have f3 := frozen_of_row W (w.heap.size + 1) 3 _ _ HT.out.two
    have f4 := frozen_of_row W (w.heap.size + 1) 4 _ _ HT.out.two
    go_wp2_with fail
    exact bodyPost_ret (results_cell_row (fn := Try.f8) rfl _ _ (w.heap.size + 1) 24 _ (0, 0) _ rfl (row5 HT.out.two _ _ _ _ _) Try.underlying24 rfl size29) rfl ⟨by rw [HS.out], below5 HT.out.below (by omega) _ _ _ _ _⟩

set_option maxRecDepth 100000 in
set_option maxHeartbeats 2000000 in
theorem refPrint (k m t : Int) (d : ByteArray) (w : World) (hd : d.size ≤ 2000) :
    Calls Try.prog 6 #[nodeV k m t d] w fun e w' => e = .returned (printV k m t (d.size : Int) (sumB k d)) ∧ Below w.heap.size w w' := by
  have HT := hid (th_new w k m t d (.int .i64 k) (.int .i64 m) (.int .u32 t) (.int .i64 (d.size : Int)) (.int .u32 0))
  go_enter Try.func6, Try.ntmps6
  go_upto_region 2 with fail
  generalize ((w.alloc (.cells #[.int .i64 k, .int .i64 m, .int .u32 t, .string d] 26)).alloc (.cells #[.int .i64 0, .int .i64 0, .int .u32 0, .int .i64 0, .int .u32 0] 24)).alloc (.cells #[.int .i64 k, .int .i64 m, .int .u32 t, .int .i64 (d.size : Int), .int .u32 0] 24) = W at HT ⊢
  obtain ⟨a0, a1, a2, a3⟩ := four_cells HT.out.one
  by_cases h : k = 1
  · have HS := hid (show sumB k d = Sm.ofI d.data.toList from if_pos h)
    subst h
    go_wp2_with fail
    refine (Sm.refOf d _ (by unfold maxLen; omega)).mono ?_
    rintro e w1 ⟨rfl, hb⟩
    have HT1 := hid (HT.out.step (show Below W.heap.size W w1 by rw [← hb]; exact Below.refl _ _))
    obtain ⟨S, hS⟩ : ∃ S, Sm.ofI d.data.toList = S := ⟨_, rfl⟩
    rw [hS] at HS ⊢
    clear hS a0 a1 a2 a3 HT hb
    obtain ⟨c0, c1, c2, c3, c4⟩ := five_cells HT1.out.three
    have f4 := frozen_of_row w1 (w.heap.size + 2) 4 _ _ HT1.out.three
    go_upto_region 4 with fail
    have HT2 := hid (HT1.out.set (.int .u32 S))
    clear c0 c1 c2 c3 c4 f4 HT1
    generalize w1.setCell ⟨w.heap.size + 2, 4, none⟩ (.int .u32 S) = W2 at HT2 ⊢
    obtain ⟨c0, c1, c2, c3, c4⟩ := five_cells HT2.out.three
    obtain ⟨b0, b1, b2, b3, b4⟩ := five_cells HT2.out.two
    have f0 := frozen_of_row W2 (w.heap.size + 1) 0 _ _ HT2.out.two
    have f1 := frozen_of_row W2 (w.heap.size + 1) 1 _ _ HT2.out.two
    have f2 := frozen_of_row W2 (w.heap.size + 1) 2 _ _ HT2.out.two
    have f3 := frozen_of_row W2 (w.heap.size + 1) 3 _ _ HT2.out.two
    have f4 := frozen_of_row W2 (w.heap.size + 1) 4 _ _ HT2.out.two
    go_wp2_with fail
    exact bodyPost_ret (results_cell_row (fn := Try.f6) rfl _ _ (w.heap.size + 1) 24 _ (0, 0) _ rfl (row5 HT2.out.two _ _ _ _ _) Try.underlying24 rfl size29) rfl ⟨by rw [HS.out], below5 HT2.out.below (by omega) _ _ _ _ _⟩
  · have HS := hid (show sumB k d = 0 from if_neg h)
    have h' : (k == 1) = false := by simp [h]
    obtain ⟨c0, c1, c2, c3, c4⟩ := five_cells HT.out.three
    obtain ⟨b0, b1, b2, b3, b4⟩ := five_cells HT.out.two
    have f0 := frozen_of_row W (w.heap.size + 1) 0 _ _ HT.out.two
    have f1 := frozen_of_row W (w.heap.size + 1) 1 _ _ HT.out.two
    have f2 := frozen_of_row W (w.heap.size + 1) 2 _ _ HT.out.two
    have f3 := frozen_of_row W (w.heap.size + 1) 3 _ _ HT.out.two
    have f4 := frozen_of_row W (w.heap.size + 1) 4 _ _ HT.out.two
    go_wp2_with fail
    exact bodyPost_ret (results_cell_row (fn := Try.f6) rfl _ _ (w.heap.size + 1) 24 _ (0, 0) _ rfl (row5 HT.out.two _ _ _ _ _) Try.underlying24 rfl size29) rfl ⟨by rw [HS.out], below5 HT.out.below (by omega) _ _ _ _ _⟩

end Nod
end Go.Proofs.Ytioejdeghcjfcaa
