/- HuffBack: the walk, where there are no codes. -/
import Derived.Test.YthgjijjalfhhcaaHbC
namespace Go.Proofs.Ythgjijjalfhhcaa
set_option linter.unusedVariables false
open Go.RowKit
open Go.Proofs.Huf
attribute [local go_sem ↓] Go.wp_at_zero Go.wp_at_succ
namespace Huff

theorem Wt.step {w w' : World} {b0 G N n : Nat} (h : Wt w b0 G N n) (hb : Below w.heap.size w w') : Wt w' b0 G N n := by
  obtain ⟨h1, v, hR⟩ := h
  exact ⟨h1, v, hR.low, (hb.block G hR.lt).trans hR.blk, ⟨hR.own.1, by
    rcases hR.own.2 with h | ⟨g, c, cur, a1, a2, a3, a4⟩
    · exact .inl h
    · exact .inr ⟨g, c, cur, a1, a2, (hb.block g (Array.getElem?_eq_some_iff.1 a3).1).trans a3, a4⟩⟩⟩
theorem Wt.lt {w : World} {b0 G N n : Nat} (h : Wt w b0 G N n) : G < w.heap.size := by
  obtain ⟨_, v, hR⟩ := h
  exact hR.lt
theorem wt_new (w : World) : Wt (w.alloc (.cells #[.slice none 0 0, .int .u64 0, .int .i64 0] 47)) (w.heap.size + 1) w.heap.size 0 0 :=
  ⟨by decide, .slice none 0 0, by omega, heap_alloc_new _ _, World.ownsRow_nil _ _ _ _⟩

set_option maxRecDepth 100000 in
set_option maxHeartbeats 2000000 in
theorem walkBack_no (A A2 : Option Addr) (b off len cap b2 off2 L cap2 : Nat) (x y : Nat → Int) (w : World) (hA : 0 < len → A = some ⟨b, off, none⟩) (hx : Ints w b off len x) (hm : len ≤ 9223372036854775807) (hm2 : L ≤ 9223372036854775807)
    (hcodes : ∀ w, Ints w b off len x → Calls Try.prog 14 #[.slice A len cap] w (CodesP (natOf x) 0 w))
    (hkind : ∀ w, Ints w b off len x → Calls Try.prog 16 #[.slice A len cap] w fun e w' => e = .returned (.int .i64 3) ∧ Below w.heap.size w w') :
    Calls Try.prog 5 #[.slice A len cap, .slice A2 L cap2] w fun e w' => e = .returned (.bool true) ∧ Below w.heap.size w w' := by
  have HX := hid hx
  have HA := hid hA
  have HC := hid hcodes
  have HK := hid hkind
  clear hx hA hcodes hkind
  by_cases h60 : 60 < len ∨ 60 < L
  · have hg : decide (60 < (len : Int)) = true ∨ (decide (60 < (len : Int)) = false ∧ decide (60 < (L : Int)) = true) := by
      by_cases c : 60 < len
      · exact .inl (by rw [decide_eq_true_iff]; omega)
      · exact .inr ⟨by rw [decide_eq_false_iff_not]; omega, by rw [decide_eq_true_iff]; omega⟩
    clear h60
    rcases hg with h | ⟨h, h'⟩
    all_goals
      go_enter Try.func5, Try.ntmps5
      go_wp2_with fail
      refine (lives _).mono ?_
      rintro e w1 ⟨rfl, hb1⟩
      have H1 := hid hb1
      clear hb1
      go_wp2_with fail
      go_ret
      exact ⟨rfl, H1.out⟩
  · have h1 : decide (60 < (len : Int)) = false := by rw [decide_eq_false_iff_not]; omega
    have h2 : decide (60 < (L : Int)) = false := by rw [decide_eq_false_iff_not]; omega
    clear h60
    go_enter Try.func5, Try.ntmps5
    go_wp2_with fail
    refine (HC.out _ HX.out).mono ?_
    rintro e w1 ⟨Q, rfl, _, hb1⟩
    have H1 := hid hb1
    have HX1 := hid (HX.out.below hb1)
    clear hb1
    go_wp2_with fail
    refine (HK.out _ HX1.out).mono ?_
    rintro e w2 ⟨rfl, hb2⟩
    have H2 := hid (H1.out.trans (hb2.mono H1.out.size))
    have HX2 := hid (HX1.out.below hb2)
    clear hb2 H1 HX1
    go_wp2_with fail
    have hs1 : (w2.alloc (.cells #[.slice none 0 0, .int .u64 0, .int .i64 0] 47)).heap.size = w2.heap.size + 1 := by simp
    have hn := heap_alloc_new (w2.alloc (.cells #[.slice none 0 0, .int .u64 0, .int .i64 0] 47)) (.cells #[.int .i64 0] 3)
    rw [hs1] at hn
    have HN := hid hn
    have H3 := hid (show Below w2.heap.size w2 ((w2.alloc (.cells #[.slice none 0 0, .int .u64 0, .int .i64 0] 47)).alloc (.cells #[.int .i64 0] 3)) from ((Below.refl _ _).alloc (Nat.le_refl _) _).alloc (by simp) _)
    clear hs1 hn
    generalize (w2.alloc (.cells #[.slice none 0 0, .int .u64 0, .int .i64 0] 47)).alloc (.cells #[.int .i64 0] 3) = W3 at HN H3 ⊢
    refine (write_bad A (some ⟨w2.heap.size + 1, 0, none⟩) b off len cap (w2.heap.size + 1) 0 1 1 0 x (fun _ => 0) _ _ HA.out (HX2.out.below H3.out) (fun _ => rfl) ⟨fun _ => (Array.getElem?_eq_some_iff.1 HN.out).1, fun i hi => by
      obtain rfl : i = 0 := by omega
      rw [cell_of_row _ _ _ _ _ _ HN.out]; rfl⟩ HC.out (by omega) (by omega) (by omega) (fun i hi => by omega) (fun h => by have := (h 0 (by omega)).2.1; simp at this)).mono ?_
    rintro e w4 ⟨rfl, hb4⟩
    have H4 := hid ((H2.out.trans (H3.out.mono H2.out.size)).trans (hb4.mono (Nat.le_trans H2.out.size H3.out.size)))
    clear hb4
    go_wp2_with fail
    refine (lives _).mono ?_
    rintro e w5 ⟨rfl, hb5⟩
    have H5 := hid (H4.out.trans (hb5.mono H4.out.size))
    clear hb5
    go_wp2_with fail
    go_ret
    exact ⟨rfl, H5.out⟩
end Huff
end Go.Proofs.Ythgjijjalfhhcaa
