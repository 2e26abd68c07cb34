/- INFLATE: a block's own lengths, of the program: asked for from outside, the whole. -/
import Derived.Test.YtlfohihmkfphhaaJnfTP
import Derived.Test.YtlfohihmkfphhaaJnfW
namespace Go.Proofs.Ytlfohihmkfphhaa
set_option linter.unusedVariables false
open Go.RowKit
open Go.Proofs.Huf
attribute [local go_sem ↓] Go.wp_at_zero Go.wp_at_succ
namespace Inf
open Huff
theorem size71 : (Try.prog.info? 71).map (·.size) = some 3 := by kernel_rfl
theorem three_of {cs : Array Value} (h : cs.size = 3) : ∃ a b c, cs = #[a, b, c] := by
  obtain ⟨l⟩ := cs
  match l, (show l.length = 3 from h) with
  | [a, b, c], _ => exact ⟨a, b, c, rfl⟩
set_option maxRecDepth 100000 in
set_option maxHeartbeats 4000000 in
theorem ptabW (G : Nat) (s : ByteArray) (p K : Nat) (w : World) (h : Rd w G s p) (hs : s.size ≤ 1048576) (hp : p ≤ 8 * s.size) (hF : 8 * s.size - p < K) :
    Calls Try.prog 25 #[.pointer (some ⟨G, 0, none⟩)] w fun e w' => (match tablesP K (numS s) (8 * s.size) p with
      | .ok t q => ∃ A1 b1 o1 c1 A2 b2 o2 c2, e = .returned (.tuple #[.slice A1 t.1.length c1, .slice A2 t.2.length c2, .int .i64 0]) ∧ Lk w' A1 b1 o1 t.1 ∧ Lk w' A2 b2 o2 t.2
      | .bad f => e = .returned (.tuple #[.slice none 0 0, .slice none 0 0, .int .i64 (codeOf f : Int)])) ∧ Kp T22 G w w' := by
  cases ht : tablesP K (numS s) (8 * s.size) p with
  | bad f =>
    have hcf : ((codeOf f : Int) != 0) = true := by
      unfold codeOf
      split
      · rfl
      · split <;> rfl
    simp only
    obtain ⟨cf, hcfe⟩ : ∃ cf, cf = codeOf f := ⟨_, rfl⟩
    rw [← hcfe] at hcf ⊢
    have hlt : G < w.heap.size := h.lt
    have hb2 := ((Below.refl w.heap.size w).alloc (Nat.le_refl _) (.cells #[.slice none 0 0] 22)).alloc (by simp) (.cells #[.slice none 0 0] 22)
    have m1 := heap_alloc_new w (.cells #[.slice none 0 0] 22)
    have m2 := heap_alloc_new (w.alloc (.cells #[.slice none 0 0] 22)) (.cells #[.slice none 0 0] 22)
    simp only [World.size_alloc] at m2
    have R1 := hid ((Below.heap_alloc (w.alloc (.cells #[.slice none 0 0] 22)) (.cells #[.slice none 0 0] 22) w.heap.size (by simp)).trans m1)
    have R2 := hid m2
    have B2 := hid hb2
    have HS2 := hid (show ((w.alloc (.cells #[.slice none 0 0] 22)).alloc (.cells #[.slice none 0 0] 22)).heap.size = w.heap.size + 2 by simp)
    have HRD := hid (show Rd ((w.alloc (.cells #[.slice none 0 0] 22)).alloc (.cells #[.slice none 0 0] 22)) G s p from (hb2.block G hlt).trans h)
    clear hb2 m1 m2 h
    have hmf : ∀ (fn : Fn) (first cap : Array Value) (w : World), (Instr.makeFunc fn first cap).run Try.prog w = .ok (.func fn first cap) w := fun _ _ _ _ => rfl
    go_enter Try.func25, Try.ntmps25
    go_upto_region 4 with fail
    generalize (w.alloc (.cells #[.slice none 0 0] 22)).alloc (.cells #[.slice none 0 0] 22) = W at R1 R2 B2 HS2 HRD ⊢
    have hc0 := HRD.out.c0
    have hc1 := HRD.out.c1
    have hc2 := HRD.out.c2
    have hsz := HS2.out
    go_upto_region 6 with fail
    have hbV := ((Below.refl W.heap.size W).alloc (Nat.le_refl _) (.cells #[.string s, .int .i64 (p : Int), .bool false] 71)).alloc (by simp) (.cells #[.pointer (some ⟨G, 0, none⟩), .slice none 0 0, .int .i64 0] 65)
    have m3 := heap_alloc_new W (.cells #[.string s, .int .i64 (p : Int), .bool false] 71)
    have m4 := heap_alloc_new (W.alloc (.cells #[.string s, .int .i64 (p : Int), .bool false] 71)) (.cells #[.pointer (some ⟨G, 0, none⟩), .slice none 0 0, .int .i64 0] 65)
    simp only [World.size_alloc] at m4
    have R3 := hid ((Below.heap_alloc (W.alloc (.cells #[.string s, .int .i64 (p : Int), .bool false] 71)) (.cells #[.pointer (some ⟨G, 0, none⟩), .slice none 0 0, .int .i64 0] 65) W.heap.size (by simp)).trans m3)
    have R4 := hid m4
    have BV := hid hbV
    rw [hsz] at R3 R4
    clear hbV m3 m4 hc0 hc1 hc2 hsz
    generalize (W.alloc (.cells #[.string s, .int .i64 (p : Int), .bool false] 71)).alloc (.cells #[.pointer (some ⟨G, 0, none⟩), .slice none 0 0, .int .i64 0] 65) = V at R3 R4 BV ⊢
    have V1 := hid ((BV.out.block _ (Array.getElem?_eq_some_iff.1 R1.out).1).trans R1.out)
    have V2 := hid ((BV.out.block _ (Array.getElem?_eq_some_iff.1 R2.out).1).trans R2.out)
    have VRD := hid (show Rd V G s p from (BV.out.block G HRD.out.lt).trans HRD.out)
    have HBG := hid (show Kp T22 G w V from (Kp.of_below B2.out (by omega)).trans (Kp.of_below BV.out (by have := HS2.out; omega)))
    have HST := hid (show St V (w.heap.size + 2 + 1) G G s p (.slice none 0 0) [] 0 from ⟨R4.out, VRD.out, World.ownsRow_nil _ _ _ _, by omega, Nat.le_refl _⟩)
    have HC := hid (caughtT (w.heap.size + 2 + 1) G G s p K (.slice none 0 0) [] 0 w.heap.size (w.heap.size + 1) V HST.out hs hp hF V1.out V2.out (by omega) (by omega) (by omega))
    have HNE := hid hlt
    rw [ht] at HC
    simp only at HC
    rw [← hcfe] at HC
    clear hcfe ht
    clear hlt
    go_wp2_with fail
    refine HC.out.mono ?_
    rintro e w1 ⟨⟨rfl, q1, q2⟩, k1⟩
    obtain ⟨cs3, h3, e3, o3⟩ := k1.rdr _ _ _ R3.out (by simp [Value.oneCell'])
    obtain ⟨a3, b3, c3, rfl⟩ := three_of e3
    obtain ⟨cs4, h4, e4, _⟩ := k1.rdr _ _ _ VRD.out (by simp [Value.oneCell'])
    obtain ⟨a4, b4, c4, rfl⟩ := three_of e4
    have x0 : w1.cell? ⟨w.heap.size + 2, 0, none⟩ = some a3 := by rw [cell_of_row _ _ _ _ _ _ h3]; rfl
    have x1 : w1.cell? ⟨w.heap.size + 2, 1, none⟩ = some b3 := by rw [cell_of_row _ _ _ _ _ _ h3]; rfl
    have x2 : w1.cell? ⟨w.heap.size + 2, 2, none⟩ = some c3 := by rw [cell_of_row _ _ _ _ _ _ h3]; rfl
    have H4 := hid h4
    have O3 := hid o3
    have Q1 := hid q1
    have Q2 := hid q2
    have K1 := hid (HBG.out.trans k1)
    clear q1 q2 k1 h3 h4 e3 e4 o3
    go_upto_region 8 with fail
    go_wp2_with (refine wpList_store_row rfl 71 _ _ rfl G #[a3, b3, c3] rfl rfl 71 #[a4, b4, c4] H4.out size71 rfl O3.out ?_)
    have W1 := hid (show (w1.setRow G #[a3, b3, c3]).heap[w.heap.size]? = some (.cells #[.slice none 0 0] 22 (0, 0)) from (setRow_other w1 G _ _ (by have := HNE.out; omega)).trans Q1.out)
    have W2 := hid (show (w1.setRow G #[a3, b3, c3]).heap[w.heap.size + 1]? = some (.cells #[.slice none 0 0] 22 (0, 0)) from (setRow_other w1 G _ _ (by have := HNE.out; omega)).trans Q2.out)
    have WB := hid (show Kp T22 G w (w1.setRow G #[a3, b3, c3]) from K1.out.trans (.of_only ⟨rfl, rfl, rfl, by simp, fun k _ hk => setRow_other w1 G k _ hk⟩ H4.out (by decide) (Nat.le_refl _) (.inr ⟨_, setRow_heap _ _ _ _ _ _ H4.out, rfl, O3.out⟩)))
    generalize w1.setRow G #[a3, b3, c3] = U at W1 W2 WB ⊢
    clear x0 x1 x2
    have u1 : U.cell? ⟨w.heap.size, 0, none⟩ = some (.slice none 0 0) := by rw [cell_of_row _ _ _ _ _ _ W1.out]; rfl
    have u2 : U.cell? ⟨w.heap.size + 1, 0, none⟩ = some (.slice none 0 0) := by rw [cell_of_row _ _ _ _ _ _ W2.out]; rfl
    go_quiet (fail)
    go_wp2_with fail
    go_returns
    exact ⟨rfl, WB.out.drewN _⟩
  | ok t q =>
    simp only
    have hlt : G < w.heap.size := h.lt
    have hb2 := ((Below.refl w.heap.size w).alloc (Nat.le_refl _) (.cells #[.slice none 0 0] 22)).alloc (by simp) (.cells #[.slice none 0 0] 22)
    have m1 := heap_alloc_new w (.cells #[.slice none 0 0] 22)
    have m2 := heap_alloc_new (w.alloc (.cells #[.slice none 0 0] 22)) (.cells #[.slice none 0 0] 22)
    simp only [World.size_alloc] at m2
    have R1 := hid ((Below.heap_alloc (w.alloc (.cells #[.slice none 0 0] 22)) (.cells #[.slice none 0 0] 22) w.heap.size (by simp)).trans m1)
    have R2 := hid m2
    have B2 := hid hb2
    have HS2 := hid (show ((w.alloc (.cells #[.slice none 0 0] 22)).alloc (.cells #[.slice none 0 0] 22)).heap.size = w.heap.size + 2 by simp)
    have HRD := hid (show Rd ((w.alloc (.cells #[.slice none 0 0] 22)).alloc (.cells #[.slice none 0 0] 22)) G s p from (hb2.block G hlt).trans h)
    clear hb2 m1 m2 h
    have hmf : ∀ (fn : Fn) (first cap : Array Value) (w : World), (Instr.makeFunc fn first cap).run Try.prog w = .ok (.func fn first cap) w := fun _ _ _ _ => rfl
    go_enter Try.func25, Try.ntmps25
    go_upto_region 4 with fail
    generalize (w.alloc (.cells #[.slice none 0 0] 22)).alloc (.cells #[.slice none 0 0] 22) = W at R1 R2 B2 HS2 HRD ⊢
    have hc0 := HRD.out.c0
    have hc1 := HRD.out.c1
    have hc2 := HRD.out.c2
    have hsz := HS2.out
    go_upto_region 6 with fail
    have hbV := ((Below.refl W.heap.size W).alloc (Nat.le_refl _) (.cells #[.string s, .int .i64 (p : Int), .bool false] 71)).alloc (by simp) (.cells #[.pointer (some ⟨G, 0, none⟩), .slice none 0 0, .int .i64 0] 65)
    have m3 := heap_alloc_new W (.cells #[.string s, .int .i64 (p : Int), .bool false] 71)
    have m4 := heap_alloc_new (W.alloc (.cells #[.string s, .int .i64 (p : Int), .bool false] 71)) (.cells #[.pointer (some ⟨G, 0, none⟩), .slice none 0 0, .int .i64 0] 65)
    simp only [World.size_alloc] at m4
    have R3 := hid ((Below.heap_alloc (W.alloc (.cells #[.string s, .int .i64 (p : Int), .bool false] 71)) (.cells #[.pointer (some ⟨G, 0, none⟩), .slice none 0 0, .int .i64 0] 65) W.heap.size (by simp)).trans m3)
    have R4 := hid m4
    have BV := hid hbV
    rw [hsz] at R3 R4
    clear hbV m3 m4 hc0 hc1 hc2 hsz
    generalize (W.alloc (.cells #[.string s, .int .i64 (p : Int), .bool false] 71)).alloc (.cells #[.pointer (some ⟨G, 0, none⟩), .slice none 0 0, .int .i64 0] 65) = V at R3 R4 BV ⊢
    have V1 := hid ((BV.out.block _ (Array.getElem?_eq_some_iff.1 R1.out).1).trans R1.out)
    have V2 := hid ((BV.out.block _ (Array.getElem?_eq_some_iff.1 R2.out).1).trans R2.out)
    have VRD := hid (show Rd V G s p from (BV.out.block G HRD.out.lt).trans HRD.out)
    have HBG := hid (show Kp T22 G w V from (Kp.of_below B2.out (by omega)).trans (Kp.of_below BV.out (by have := HS2.out; omega)))
    have HST := hid (show St V (w.heap.size + 2 + 1) G G s p (.slice none 0 0) [] 0 from ⟨R4.out, VRD.out, World.ownsRow_nil _ _ _ _, by omega, Nat.le_refl _⟩)
    have HC := hid (caughtT (w.heap.size + 2 + 1) G G s p K (.slice none 0 0) [] 0 w.heap.size (w.heap.size + 1) V HST.out hs hp hF V1.out V2.out (by omega) (by omega) (by omega))
    have HNE := hid hlt
    rw [ht] at HC
    simp only at HC
    clear ht
    clear hlt
    go_wp2_with fail
    refine HC.out.mono ?_
    rintro e w1 ⟨⟨rfl, _, _, A1, b1, o1, c1, A2, b2, o2, c2, q1, q2, hl1, hl2, hw1, hw2⟩, k1⟩
    have u1 : w1.cell? ⟨w.heap.size, 0, none⟩ = some (.slice A1 t.1.length c1) := by rw [cell_of_row _ _ _ _ _ _ q1]; rfl
    have u2 : w1.cell? ⟨w.heap.size + 1, 0, none⟩ = some (.slice A2 t.2.length c2) := by rw [cell_of_row _ _ _ _ _ _ q2]; rfl
    have L1 := hid (fun nq => (⟨hl1, fun _ => hw1⟩ : Lk w1 A1 b1 o1 t.1).grow (w' := w1.drewN nq) ⟨rfl, rfl, rfl, Nat.le_refl _, fun _ _ => rfl⟩)
    have L2 := hid (fun nq => (⟨hl2, fun _ => hw2⟩ : Lk w1 A2 b2 o2 t.2).grow (w' := w1.drewN nq) ⟨rfl, rfl, rfl, Nat.le_refl _, fun _ _ => rfl⟩)
    have K1 := hid (HBG.out.trans k1)
    clear q1 q2 hl1 hl2 hw1 hw2 k1
    go_upto_region 9 with fail
    go_quiet (fail)
    go_wp2_with fail
    go_returns
    exact ⟨⟨A1, b1, o1, c1, A2, b2, o2, c2, rfl, L1.out nq, L2.out nq⟩, K1.out.drewN _⟩
end Inf
end Go.Proofs.Ytlfohihmkfphhaa
