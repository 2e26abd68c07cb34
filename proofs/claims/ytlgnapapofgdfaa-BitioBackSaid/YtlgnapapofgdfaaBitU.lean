/- WALKS over writers of bits: side by side; the document's example. -/
import Derived.Test.YtlgnapapofgdfaaBitT
namespace Go.Proofs.Ytlgnapapofgdfaa
set_option linter.unusedVariables false
open Go.RowKit
open Go.Proofs.Bit
attribute [local go_sem ↓] Go.wp_at_zero Go.wp_at_succ

theorem own_step {w w' : World} {v : Value} {b0 T k : Nat} {xs : List Value} (h : w.ownsRow b0 T 1 v k xs) (hb : Below w.heap.size w w') : w'.ownsRow b0 T 1 v k xs := by
  refine ⟨h.1, ?_⟩
  rcases h.2 with hn | ⟨g, cap, cur, hv, hg, hgc, rest⟩
  · exact .inl hn
  · exact .inr ⟨g, cap, cur, hv, hg, (hb.block g (Array.getElem?_eq_some_iff.1 hgc).1).trans hgc, rest⟩
theorem own_keep {w w' : World} {v : Value} {b0 T T' G k : Nat} {xs : List Value} (h : w.ownsRow b0 T 1 v k xs) (hk : Keep G T' w w') (ht : T ≠ T') (hG : G < b0) : w'.ownsRow b0 T 1 v k xs := by
  have hl := h.lt
  refine ⟨h.1, ?_⟩
  rcases h.2 with hn | ⟨g, cap, cur, hv, hg, hgc, rest⟩
  · exact .inl hn
  · subst hv
    have h1 := (hl g rfl).1
    exact .inr ⟨g, cap, cur, rfl, hg, hk.others g cur T _ hgc ht (by omega), rest⟩

theorem Wt.step {w w' : World} {b0 G N n : Nat} (h : Wt w b0 G N n) (hb : Below w.heap.size w w') : Wt w' b0 G N n := by
  obtain ⟨hN, v, hR⟩ := h
  exact ⟨hN, v, hR.low, (hb.block G hR.lt).trans hR.blk, own_step hR.own hb⟩
theorem Wt.keep {w w' : World} {b0 G G' N n : Nat} (h : Wt w b0 G N n) (hk : Keep G' 32 w w') (hne : G ≠ G') (hG : G' < b0) : Wt w' b0 G N n := by
  obtain ⟨hN, v, hR⟩ := h
  exact ⟨hN, v, hR.low, hk.others G _ 26 _ hR.blk (by decide) hne, own_keep hR.own hk (by decide) hG⟩
theorem Rt.step {w w' : World} {b0 G N n : Nat} {v : Value} (h : Rt w b0 G N n v) (hb : Below w.heap.size w w') : Rt w' b0 G N n v := ⟨h.lt2, h.low, (hb.block G h.lt).trans h.blk, own_step h.own hb⟩
theorem Rt.keep {w w' : World} {b0 G G' N n : Nat} {v : Value} (h : Rt w b0 G N n v) (hk : Keep G' 5 w w') (hne : G ≠ G') (hG : G' < b0) : Rt w' b0 G N n v :=
  ⟨h.lt2, h.low, hk.others G _ 29 _ h.blk (by decide) hne, own_keep h.own hk (by decide) hG⟩

/-- Two writers side by side, with the same bits. -/
structure Two (w W : World) (N n : Nat) : Prop where
  wt : Wt W (w.heap.size + 2) w.heap.size N n
  rt : ∃ x, Rt W (w.heap.size + 2) (w.heap.size + 1) N n x
  below : Below w.heap.size w W
  big : w.heap.size + 2 ≤ W.heap.size
theorem Two.step {w W W' : World} {N n : Nat} (h : Two w W N n) (hb : Below W.heap.size W W') : Two w W' N n := by
  obtain ⟨x, hr⟩ := h.rt
  exact ⟨h.wt.step hb, ⟨x, hr.step hb⟩, h.below.trans (hb.mono h.below.size), Nat.le_trans h.big hb.size⟩
theorem Two.alloc {w W : World} {N n : Nat} (h : Two w W N n) (o : Obj) : Two w (W.alloc o) N n := h.step ((Below.refl _ _).alloc (Nat.le_refl _) o)
theorem Two.drew {w W : World} {N n : Nat} (h : Two w W N n) : Two w W.drew N n := h.step (Below.refl _ _).drew
theorem Two.drewN {w W : World} {N n : Nat} (h : Two w W N n) (k : Nat) : Two w (W.drewN k) N n := h.step ⟨rfl, rfl, rfl, Nat.le_refl _, fun _ _ => rfl⟩
theorem two_new (w : World) : Two w ((w.alloc (.cells #[.slice none 0 0, .int .u64 0, .int .i64 0] 26)).alloc (.cells #[.slice none 0 0] 29)) 0 0 := by
  have e : (w.alloc (.cells #[.slice none 0 0, .int .u64 0, .int .i64 0] 26)).heap.size = w.heap.size + 1 := by simp
  refine ⟨⟨by decide, .slice none 0 0, by omega, ?_, World.ownsRow_nil _ _ _ _⟩, ⟨.slice none 0 0, by decide, by omega, ?_, World.ownsRow_nil _ _ _ _⟩, ((Below.refl _ _).alloc (Nat.le_refl _) _).alloc (by simp) _, by simp⟩
  · exact (Below.heap_alloc _ _ _ (by simp)).trans (heap_alloc_new _ _)
  · have := heap_alloc_new (w.alloc (.cells #[.slice none 0 0, .int .u64 0, .int .i64 0] 26)) (.cells #[.slice none 0 0] 29)
    rw [e] at this
    exact this
/-- Both take a step. -/
theorem Two.go {w W W1 W2 : World} {N n N' n' : Nat} (h : Two w W N n) (h1 : Wt W1 (w.heap.size + 2) w.heap.size N' n') (k1 : Keep w.heap.size 5 W W1) (h2 : ∃ x, Rt W2 (w.heap.size + 2) (w.heap.size + 1) N' n' x) (k2 : Keep (w.heap.size + 1) 32 W1 W2) : Two w W2 N' n' :=
  ⟨h1.keep k2 (by omega) (by omega), h2, h.below.trans (k1.below.trans (k2.below.mono (by omega))), Nat.le_trans h.big (Nat.le_trans k1.below.size k2.below.size)⟩
theorem Two.mid {w W W1 : World} {N n : Nat} (h : Two w W N n) (k1 : Keep w.heap.size 5 W W1) : ∃ x, Rt W1 (w.heap.size + 2) (w.heap.size + 1) N n x := by
  obtain ⟨x, hr⟩ := h.rt
  exact ⟨x, hr.keep k1 (by omega) (by omega)⟩

theorem wt_new (w : World) : Wt (w.alloc (.cells #[.slice none 0 0, .int .u64 0, .int .i64 0] 26)) (w.heap.size + 1) w.heap.size 0 0 :=
  ⟨by decide, .slice none 0 0, by omega, heap_alloc_new _ _, World.ownsRow_nil _ _ _ _⟩
theorem bytes_5 : bytesB 5 3 = ⟨#[5]⟩ := by decide

set_option maxRecDepth 100000 in
theorem lives (w : World) : Calls Try.prog 14 #[] w fun e w' => e = .returned (.bool true) ∧ Below w.heap.size w w' := by
  go_enter Try.func14, Try.ntmps14
  go_wp2_with fail
  refine (wbits (w.heap.size + 1) w.heap.size 0 0 1 1 _ (wt_new w) (by simp) (by decide) (by decide) (by decide) (by decide)).mono ?_
  rintro e w1 ⟨rfl, h1, h2⟩
  have H1 := hid (show Wt w1 (w.heap.size + 1) w.heap.size 1 1 from h1)
  have H2 := hid h2
  clear h1 h2
  go_wp2_with fail
  refine (wbits (w.heap.size + 1) w.heap.size 1 1 2 2 _ H1.out (by have := H2.out.below.size; simp at this; omega) (by decide) (by decide) (by decide) (by decide)).mono ?_
  rintro e w2 ⟨rfl, h3, h4⟩
  have H3 := hid (show Wt w2 (w.heap.size + 1) w.heap.size 5 3 from h3)
  have H4 := hid h4
  clear h3 h4
  go_wp2_with fail
  refine (wbytes (w.heap.size + 1) w.heap.size 5 3 _ H3.out (by decide)).mono ?_
  rw [bytes_5]
  rintro e w3 ⟨rfl, h5⟩
  have H5 := hid h5
  clear h5
  go_wp2_with fail
  refine (wlen (w.heap.size + 1) w.heap.size 5 3 _ (H3.out.step H5.out) (by decide)).mono ?_
  rintro e w4 ⟨rfl, k, rfl⟩
  go_wp2_with fail
  go_ret
  refine ⟨rfl, ?_⟩
  have hb := (((Below.refl w.heap.size w).alloc (Nat.le_refl _) (.cells #[.slice none 0 0, .int .u64 0, .int .i64 0] 26)).trans H2.out.below).trans H4.out.below
  have hb2 := hb.trans (H5.out.mono hb.size)
  exact ⟨hb2.os, hb2.tape, hb2.output, hb2.size, hb2.block⟩
end Go.Proofs.Ytlgnapapofgdfaa
