/- NodeRight: nodes and prints as values; the simple walks. -/
import Derived.Test.YtbbjjhcpeablcaaDoorDosW
import Derived.Test.YtbbjjhcpeablcaaDoorSumO
import Derived.Deep.RegionHeld3
import Derived.Deep.QuietTactic
namespace Go.Proofs.YtbbjjhcpeablcaaDoor
set_option linter.unusedVariables false
open Go.RowKit
attribute [local go_sem ↓] Go.wp_at_zero Go.wp_at_succ
namespace Nod

abbrev nodeV (k m t : Int) (d : ByteArray) : Value := .agg #[.int .i64 k, .int .i64 m, .int .u32 t, .string d]
abbrev printV (k m t n s : Int) : Value := .agg #[.int .i64 k, .int .i64 m, .int .u32 t, .int .i64 n, .int .u32 s]

theorem size24 : (Tryd.prog.info? 24).map (·.size) = some 4 := by kernel_rfl
theorem size29 : (Tryd.prog.info? 29).map (·.size) = some 5 := by kernel_rfl

theorem eq24 (k m t k' m' t' : Int) (d d' : ByteArray) (w : World) : (binOp BinOp.eql 24 (nodeV k m t d) (nodeV k' m' t' d')).run Tryd.prog w = .ok (.bool (decide (k = k' ∧ m = m' ∧ t = t' ∧ d.toList = d'.toList))) w := by
  by_cases h1 : k = k' <;> by_cases h2 : m = m' <;> by_cases h3 : t = t' <;> by_cases h4 : d.toList = d'.toList <;> simp [go_sem, h1, h2, h3, h4]
theorem eq29 (k m t k' m' t' n n' s s' : Int) (w : World) : (binOp BinOp.eql 29 (printV k m t n s) (printV k' m' t' n' s')).run Tryd.prog w = .ok (.bool (decide (k = k' ∧ m = m' ∧ t = t' ∧ n = n' ∧ s = s'))) w := by
  by_cases h1 : k = k' <;> by_cases h2 : m = m' <;> by_cases h3 : t = t' <;> by_cases h4 : n = n' <;> by_cases h5 : s = s' <;> simp [go_sem, h1, h2, h3, h4, h5]

theorem four_cells {w : World} {E : Nat} {a b c d : Value} {T : TypeId} (h : w.heap[E]? = some (.cells #[a, b, c, d] T (0, 0))) :
    w.cell? ⟨E, 0, none⟩ = some a ∧ w.cell? ⟨E, 1, none⟩ = some b ∧ w.cell? ⟨E, 2, none⟩ = some c ∧ w.cell? ⟨E, 3, none⟩ = some d := by
  refine ⟨?_, ?_, ?_, ?_⟩ <;> (rw [cell_of_row _ _ _ _ _ _ h]; rfl)
theorem row4 {w : World} {g : Nat} {T : TypeId} {x y z u : Value} (h : w.heap[g]? = some (.cells #[x, y, z, u] T (0, 0))) (a b c d : Value) :
    ((((w.setCell ⟨g, 0, none⟩ a).setCell ⟨g, 1, none⟩ b).setCell ⟨g, 2, none⟩ c).setCell ⟨g, 3, none⟩ d).heap[g]? = some (.cells #[a, b, c, d] T (0, 0)) := by
  have h1 := heap_setCell_same w g 0 _ T a h
  have h2 := heap_setCell_same _ g 1 _ T b h1
  have h3 := heap_setCell_same _ g 2 _ T c h2
  exact heap_setCell_same _ g 3 _ T d h3
theorem below4 {a w : World} {g : Nat} (h : Below a.heap.size a w) (hg : a.heap.size ≤ g) (x y z u : Value) : Below a.heap.size a ((((w.setCell ⟨g, 0, none⟩ x).setCell ⟨g, 1, none⟩ y).setCell ⟨g, 2, none⟩ z).setCell ⟨g, 3, none⟩ u) :=
  (((h.setCell hg x).setCell hg y).setCell hg z).setCell hg u
theorem row_step {W W' : World} {g : Nat} {o : Obj} (h : W.heap[g]? = some o) (hb : Below W.heap.size W W') : W'.heap[g]? = some o := (hb.block g (Array.getElem?_eq_some_iff.1 h).1).trans h
theorem five_cells {w : World} {E : Nat} {a b c d e : Value} {T : TypeId} (h : w.heap[E]? = some (.cells #[a, b, c, d, e] T (0, 0))) :
    w.cell? ⟨E, 0, none⟩ = some a ∧ w.cell? ⟨E, 1, none⟩ = some b ∧ w.cell? ⟨E, 2, none⟩ = some c ∧ w.cell? ⟨E, 3, none⟩ = some d ∧ w.cell? ⟨E, 4, none⟩ = some e := by
  refine ⟨?_, ?_, ?_, ?_, ?_⟩ <;> (rw [cell_of_row _ _ _ _ _ _ h]; rfl)
theorem row5 {w : World} {g : Nat} {T : TypeId} {x y z u v : Value} (h : w.heap[g]? = some (.cells #[x, y, z, u, v] T (0, 0))) (a b c d e : Value) :
    (((((w.setCell ⟨g, 0, none⟩ a).setCell ⟨g, 1, none⟩ b).setCell ⟨g, 2, none⟩ c).setCell ⟨g, 3, none⟩ d).setCell ⟨g, 4, none⟩ e).heap[g]? = some (.cells #[a, b, c, d, e] T (0, 0)) := by
  have h1 := heap_setCell_same w g 0 _ T a h
  have h2 := heap_setCell_same _ g 1 _ T b h1
  have h3 := heap_setCell_same _ g 2 _ T c h2
  have h4 := heap_setCell_same _ g 3 _ T d h3
  exact heap_setCell_same _ g 4 _ T e h4
theorem below5 {a w : World} {g : Nat} (h : Below a.heap.size a w) (hg : a.heap.size ≤ g) (x y z u v : Value) : Below a.heap.size a (((((w.setCell ⟨g, 0, none⟩ x).setCell ⟨g, 1, none⟩ y).setCell ⟨g, 2, none⟩ z).setCell ⟨g, 3, none⟩ u).setCell ⟨g, 4, none⟩ v) :=
  ((((h.setCell hg x).setCell hg y).setCell hg z).setCell hg u).setCell hg v

/-- Two blocks: what came in, and what goes out. -/
structure Tw (w W : World) (a b c d e f g h : Value) : Prop where
  one : W.heap[w.heap.size]? = some (.cells #[a, b, c, d] 24 (0, 0))
  two : W.heap[w.heap.size + 1]? = some (.cells #[e, f, g, h] 24 (0, 0))
  below : Below w.heap.size w W
theorem tw_new (w : World) (a b c d e f g h : Value) : Tw w ((w.alloc (.cells #[a, b, c, d] 24)).alloc (.cells #[e, f, g, h] 24)) a b c d e f g h :=
  ⟨(Below.heap_alloc _ _ _ (by simp)).trans (heap_alloc_new _ _), by have := heap_alloc_new (w.alloc (.cells #[a, b, c, d] 24)) (.cells #[e, f, g, h] 24); rw [World.size_alloc] at this; exact this, ((Below.refl _ _).alloc (Nat.le_refl _) _).alloc (by simp) _⟩
theorem Tw.set {w W : World} {a b c d e f g h : Value} (k : Tw w W a b c d e f g h) (d' : Value) : Tw w (W.setCell ⟨w.heap.size, 3, none⟩ d') a b c d' e f g h :=
  ⟨heap_setCell_same _ _ 3 _ _ d' k.one, (heap_setCell_other _ ⟨w.heap.size, 3, none⟩ _ _ (by show _ ≠ w.heap.size; omega)).trans k.two, k.below.setCell (p := ⟨w.heap.size, 3, none⟩) (Nat.le_refl _) _⟩

theorem Tw.step {w W W' : World} {a b c d e f g h : Value} (k : Tw w W a b c d e f g h) (hb : Below W.heap.size W W') : Tw w W' a b c d e f g h :=
  ⟨row_step k.one hb, row_step k.two hb, k.below.trans (hb.mono k.below.size)⟩
theorem Tw.drew {w W : World} {a b c d e f g h : Value} (k : Tw w W a b c d e f g h) : Tw w W.drew a b c d e f g h := ⟨k.one, k.two, k.below.drew⟩

/-- A text's first 2000 bytes. -/
def cutB (d : ByteArray) : ByteArray := if d.size ≤ 2000 then d else d.extract 0 2000
theorem cutB_le (d : ByteArray) : (cutB d).size ≤ 2000 := by
  unfold cutB
  split
  · assumption
  · simp; omega

set_option maxRecDepth 100000 in
set_option maxHeartbeats 2000000 in
theorem cut_ (k m t : Int) (d : ByteArray) (w : World) (hd : d.size ≤ 9223372036854775807) :
    Calls Tryd.prog 4 #[nodeV k m t d] w fun e w' => e = .returned (nodeV k m t (cutB d)) ∧ Below w.heap.size w w' := by
  have HT := hid (tw_new w (.int .i64 k) (.int .i64 m) (.int .u32 t) (.string d) (.int .i64 0) (.int .i64 0) (.int .u32 0) (.string ⟨#[]⟩))
  go_enter Tryd.func4, Tryd.ntmps4
  go_upto_region 1 with fail
  generalize (w.alloc (.cells #[.int .i64 k, .int .i64 m, .int .u32 t, .string d] 24)).alloc (.cells #[.int .i64 0, .int .i64 0, .int .u32 0, .string ⟨#[]⟩] 24) = W at HT ⊢
  obtain ⟨a0, a1, a2, a3⟩ := four_cells HT.out.one
  have f3 := frozen_of_row W w.heap.size 3 _ _ HT.out.one
  by_cases h : d.size ≤ 2000
  · have h' : (d.size : Int) ≤ 2000 := by omega
    have hc : cutB d = d := if_pos h
    have HC := hid hc
    clear hc
    go_upto_region 2 with fail
    have HT2 := hid (HT.out.set (.string d))
    clear a0 a1 a2 a3 f3 HT
    generalize W.setCell ⟨w.heap.size, 3, none⟩ (.string d) = W2 at HT2 ⊢
    obtain ⟨a0, a1, a2, a3⟩ := four_cells HT2.out.one
    obtain ⟨b0, b1, b2, b3⟩ := four_cells HT2.out.two
    have f0 := frozen_of_row W2 (w.heap.size + 1) 0 _ _ HT2.out.two
    have f1 := frozen_of_row W2 (w.heap.size + 1) 1 _ _ HT2.out.two
    have f2 := frozen_of_row W2 (w.heap.size + 1) 2 _ _ HT2.out.two
    have f3 := frozen_of_row W2 (w.heap.size + 1) 3 _ _ HT2.out.two
    go_wp2_with fail
    exact bodyPost_ret (results_cell_row (fn := Tryd.f4) rfl _ _ (w.heap.size + 1) 24 _ (0, 0) _ rfl (row4 HT2.out.two _ _ _ _) Tryd.underlying24 rfl size24) rfl ⟨by rw [HC.out], below4 HT2.out.below (by omega) _ _ _ _⟩
  · have h' : ¬ (d.size : Int) ≤ 2000 := by omega
    have h5 : (2000 : Int) ≤ (d.size : Int) := by omega
    have hc : cutB d = d.extract 0 2000 := if_neg h
    have HC := hid hc
    clear hc
    go_upto_region 2 with fail
    have HT2 := hid (HT.out.set (.string (d.extract 0 2000)))
    clear a0 a1 a2 a3 f3 HT
    generalize W.setCell ⟨w.heap.size, 3, none⟩ (.string (d.extract 0 2000)) = W2 at HT2 ⊢
    obtain ⟨a0, a1, a2, a3⟩ := four_cells HT2.out.one
    obtain ⟨b0, b1, b2, b3⟩ := four_cells HT2.out.two
    have f0 := frozen_of_row W2 (w.heap.size + 1) 0 _ _ HT2.out.two
    have f1 := frozen_of_row W2 (w.heap.size + 1) 1 _ _ HT2.out.two
    have f2 := frozen_of_row W2 (w.heap.size + 1) 2 _ _ HT2.out.two
    have f3 := frozen_of_row W2 (w.heap.size + 1) 3 _ _ HT2.out.two
    go_wp2_with fail
    exact bodyPost_ret (results_cell_row (fn := Tryd.f4) rfl _ _ (w.heap.size + 1) 24 _ (0, 0) _ rfl (row4 HT2.out.two _ _ _ _) Tryd.underlying24 rfl size24) rfl ⟨by rw [HC.out], below4 HT2.out.below (by omega) _ _ _ _⟩

/-- Three blocks: a node; what goes out; the print that is made. -/
structure Th (w W : World) (k m t : Int) (d : ByteArray) (x0 x1 x2 x3 x4 : Value) : Prop where
  one : W.heap[w.heap.size]? = some (.cells #[.int .i64 k, .int .i64 m, .int .u32 t, .string d] 24 (0, 0))
  two : W.heap[w.heap.size + 1]? = some (.cells #[.int .i64 0, .int .i64 0, .int .u32 0, .int .i64 0, .int .u32 0] 29 (0, 0))
  three : W.heap[w.heap.size + 2]? = some (.cells #[x0, x1, x2, x3, x4] 29 (0, 0))
  below : Below w.heap.size w W
theorem th_new (w : World) (k m t : Int) (d : ByteArray) (x0 x1 x2 x3 x4 : Value) :
    Th w (((w.alloc (.cells #[.int .i64 k, .int .i64 m, .int .u32 t, .string d] 24)).alloc (.cells #[.int .i64 0, .int .i64 0, .int .u32 0, .int .i64 0, .int .u32 0] 29)).alloc (.cells #[x0, x1, x2, x3, x4] 29)) k m t d x0 x1 x2 x3 x4 := by
  refine ⟨?_, ?_, ?_, (((Below.refl _ _).alloc (Nat.le_refl _) _).alloc (by simp) _).alloc (by simp; omega) _⟩
  · exact (Below.heap_alloc _ _ _ (by simp; omega)).trans ((Below.heap_alloc _ _ _ (by simp)).trans (heap_alloc_new _ _))
  · have := heap_alloc_new (w.alloc (.cells #[.int .i64 k, .int .i64 m, .int .u32 t, .string d] 24)) (.cells #[.int .i64 0, .int .i64 0, .int .u32 0, .int .i64 0, .int .u32 0] 29)
    rw [World.size_alloc] at this
    exact (Below.heap_alloc _ _ _ (by simp)).trans this
  · have := heap_alloc_new ((w.alloc (.cells #[.int .i64 k, .int .i64 m, .int .u32 t, .string d] 24)).alloc (.cells #[.int .i64 0, .int .i64 0, .int .u32 0, .int .i64 0, .int .u32 0] 29)) (.cells #[x0, x1, x2, x3, x4] 29)
    simp only [World.size_alloc] at this
    exact this
theorem Th.step {w W W' : World} {k m t : Int} {d : ByteArray} {x0 x1 x2 x3 x4 : Value} (h : Th w W k m t d x0 x1 x2 x3 x4) (hb : Below W.heap.size W W') : Th w W' k m t d x0 x1 x2 x3 x4 :=
  ⟨row_step h.one hb, row_step h.two hb, row_step h.three hb, h.below.trans (hb.mono h.below.size)⟩
theorem Th.set {w W : World} {k m t : Int} {d : ByteArray} {x0 x1 x2 x3 x4 : Value} (h : Th w W k m t d x0 x1 x2 x3 x4) (y : Value) : Th w (W.setCell ⟨w.heap.size + 2, 4, none⟩ y) k m t d x0 x1 x2 x3 y :=
  ⟨(heap_setCell_other _ ⟨w.heap.size + 2, 4, none⟩ _ _ (by show _ ≠ w.heap.size + 2; omega)).trans h.one, (heap_setCell_other _ ⟨w.heap.size + 2, 4, none⟩ _ _ (by show _ ≠ w.heap.size + 2; omega)).trans h.two, heap_setCell_same _ _ 4 _ _ y h.three, h.below.setCell (p := ⟨w.heap.size + 2, 4, none⟩) (by show w.heap.size ≤ w.heap.size + 2; omega) _⟩

/-- A node's sum, in its print. -/
def sumB (k : Int) (d : ByteArray) : Int := if k = 1 then Sm.ofI d.data.toList else 0

set_option maxRecDepth 100000 in
set_option maxHeartbeats 2000000 in
theorem print (k m t : Int) (d : ByteArray) (w : World) (hd : d.size ≤ 2000) :
    Calls Tryd.prog 7 #[nodeV k m t d] w fun e w' => e = .returned (printV k m t (d.size : Int) (sumB k d)) ∧ Below w.heap.size w w' := by
  have HT := hid (th_new w k m t d (.int .i64 k) (.int .i64 m) (.int .u32 t) (.int .i64 (d.size : Int)) (.int .u32 0))
  go_enter Tryd.func7, Tryd.ntmps7
  go_upto_region 2 with fail
  generalize ((w.alloc (.cells #[.int .i64 k, .int .i64 m, .int .u32 t, .string d] 24)).alloc (.cells #[.int .i64 0, .int .i64 0, .int .u32 0, .int .i64 0, .int .u32 0] 29)).alloc (.cells #[.int .i64 k, .int .i64 m, .int .u32 t, .int .i64 (d.size : Int), .int .u32 0] 29) = W at HT ⊢
  obtain ⟨a0, a1, a2, a3⟩ := four_cells HT.out.one
  by_cases h : k = 1
  · have HS := hid (show sumB k d = Sm.ofI d.data.toList from if_pos h)
    subst h
    go_wp2_with fail
    refine (Sm.of_ d _ (by unfold maxLen; omega)).mono ?_
    rintro e w1 ⟨rfl, hb⟩
    have HT1 := hid (HT.out.step hb)
    obtain ⟨S, hS⟩ : ∃ S, Sm.ofI d.data.toList = S := ⟨_, rfl⟩
    rw [hS] at HS ⊢
    clear hS a0 a1 a2 a3 HT hb
    obtain ⟨c0, c1, c2, c3, c4⟩ := five_cells HT1.out.three
    have f4 := frozen_of_row w1 (w.heap.size + 2) 4 _ _ HT1.out.three
    go_upto_region 4 with fail
    have HT2 := hid (HT1.out.set (.int .u32 S))
    clear c0 c1 c2 c3 c4 f4 HT1
    generalize w1.setCell ⟨w.heap.size + 2, 4, none⟩ (.int .u32 S) = W2 at HT2 ⊢
    obtain ⟨c0, c1, c2, c3, c4⟩ := five_cells HT2.out.three
    obtain ⟨b0, b1, b2, b3, b4⟩ := five_cells HT2.out.two
    have f0 := frozen_of_row W2 (w.heap.size + 1) 0 _ _ HT2.out.two
    have f1 := frozen_of_row W2 (w.heap.size + 1) 1 _ _ HT2.out.two
    have f2 := frozen_of_row W2 (w.heap.size + 1) 2 _ _ HT2.out.two
    have f3 := frozen_of_row W2 (w.heap.size + 1) 3 _ _ HT2.out.two
    have f4 := frozen_of_row W2 (w.heap.size + 1) 4 _ _ HT2.out.two
    go_wp2_with fail
    exact bodyPost_ret (results_cell_row (fn := Tryd.f7) rfl _ _ (w.heap.size + 1) 29 _ (0, 0) _ rfl (row5 HT2.out.two _ _ _ _ _) Tryd.underlying29 rfl size29) rfl ⟨by rw [HS.out], below5 HT2.out.below (by omega) _ _ _ _ _⟩
  · have HS := hid (show sumB k d = 0 from if_neg h)
    have h' : (k == 1) = false := by simp [h]
    obtain ⟨c0, c1, c2, c3, c4⟩ := five_cells HT.out.three
    obtain ⟨b0, b1, b2, b3, b4⟩ := five_cells HT.out.two
    have f0 := frozen_of_row W (w.heap.size + 1) 0 _ _ HT.out.two
    have f1 := frozen_of_row W (w.heap.size + 1) 1 _ _ HT.out.two
    have f2 := frozen_of_row W (w.heap.size + 1) 2 _ _ HT.out.two
    have f3 := frozen_of_row W (w.heap.size + 1) 3 _ _ HT.out.two
    have f4 := frozen_of_row W (w.heap.size + 1) 4 _ _ HT.out.two
    go_wp2_with fail
    exact bodyPost_ret (results_cell_row (fn := Tryd.f7) rfl _ _ (w.heap.size + 1) 29 _ (0, 0) _ rfl (row5 HT.out.two _ _ _ _ _) Tryd.underlying29 rfl size29) rfl ⟨by rw [HS.out], below5 HT.out.below (by omega) _ _ _ _ _⟩

set_option maxRecDepth 100000 in
set_option maxHeartbeats 2000000 in
theorem refPrint (k m t : Int) (d : ByteArray) (w : World) (hd : d.size ≤ 2000) :
    Calls Tryd.prog 8 #[nodeV k m t d] w fun e w' => e = .returned (printV k m t (d.size : Int) (sumB k d)) ∧ Below w.heap.size w w' := by
  have HT := hid (th_new w k m t d (.int .i64 k) (.int .i64 m) (.int .u32 t) (.int .i64 (d.size : Int)) (.int .u32 0))
  go_enter Tryd.func8, Tryd.ntmps8
  go_upto_region 2 with fail
  generalize ((w.alloc (.cells #[.int .i64 k, .int .i64 m, .int .u32 t, .string d] 24)).alloc (.cells #[.int .i64 0, .int .i64 0, .int .u32 0, .int .i64 0, .int .u32 0] 29)).alloc (.cells #[.int .i64 k, .int .i64 m, .int .u32 t, .int .i64 (d.size : Int), .int .u32 0] 29) = W at HT ⊢
  obtain ⟨a0, a1, a2, a3⟩ := four_cells HT.out.one
  by_cases h : k = 1
  · have HS := hid (show sumB k d = Sm.ofI d.data.toList from if_pos h)
    subst h
    go_wp2_with fail
    refine (Sm.refOf d _ (by unfold maxLen; omega)).mono ?_
    rintro e w1 ⟨rfl, hb⟩
    have HT1 := hid (HT.out.step (show Below W.heap.size W w1 by rw [← hb]; exact Below.refl _ _))
    obtain ⟨S, hS⟩ : ∃ S, Sm.ofI d.data.toList = S := ⟨_, rfl⟩
    rw [hS] at HS ⊢
    clear hS a0 a1 a2 a3 HT hb
    obtain ⟨c0, c1, c2, c3, c4⟩ := five_cells HT1.out.three
    have f4 := frozen_of_row w1 (w.heap.size + 2) 4 _ _ HT1.out.three
    go_upto_region 4 with fail
    have HT2 := hid (HT1.out.set (.int .u32 S))
    clear c0 c1 c2 c3 c4 f4 HT1
    generalize w1.setCell ⟨w.heap.size + 2, 4, none⟩ (.int .u32 S) = W2 at HT2 ⊢
    obtain ⟨c0, c1, c2, c3, c4⟩ := five_cells HT2.out.three
    obtain ⟨b0, b1, b2, b3, b4⟩ := five_cells HT2.out.two
    have f0 := frozen_of_row W2 (w.heap.size + 1) 0 _ _ HT2.out.two
    have f1 := frozen_of_row W2 (w.heap.size + 1) 1 _ _ HT2.out.two
    have f2 := frozen_of_row W2 (w.heap.size + 1) 2 _ _ HT2.out.two
    have f3 := frozen_of_row W2 (w.heap.size + 1) 3 _ _ HT2.out.two
    have f4 := frozen_of_row W2 (w.heap.size + 1) 4 _ _ HT2.out.two
    go_wp2_with fail
    exact bodyPost_ret (results_cell_row (fn := Tryd.f8) rfl _ _ (w.heap.size + 1) 29 _ (0, 0) _ rfl (row5 HT2.out.two _ _ _ _ _) Tryd.underlying29 rfl size29) rfl ⟨by rw [HS.out], below5 HT2.out.below (by omega) _ _ _ _ _⟩
  · have HS := hid (show sumB k d = 0 from if_neg h)
    have h' : (k == 1) = false := by simp [h]
    obtain ⟨c0, c1, c2, c3, c4⟩ := five_cells HT.out.three
    obtain ⟨b0, b1, b2, b3, b4⟩ := five_cells HT.out.two
    have f0 := frozen_of_row W (w.heap.size + 1) 0 _ _ HT.out.two
    have f1 := frozen_of_row W (w.heap.size + 1) 1 _ _ HT.out.two
    have f2 := frozen_of_row W (w.heap.size + 1) 2 _ _ HT.out.two
    have f3 := frozen_of_row W (w.heap.size + 1) 3 _ _ HT.out.two
    have f4 := frozen_of_row W (w.heap.size + 1) 4 _ _ HT.out.two
    go_wp2_with fail
    exact bodyPost_ret (results_cell_row (fn := Tryd.f8) rfl _ _ (w.heap.size + 1) 29 _ (0, 0) _ rfl (row5 HT.out.two _ _ _ _ _) Tryd.underlying29 rfl size29) rfl ⟨by rw [HS.out], below5 HT.out.below (by omega) _ _ _ _ _⟩

end Nod
end Go.Proofs.YtbbjjhcpeablcaaDoor
