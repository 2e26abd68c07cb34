/- INFLATE: a block's own lengths, of the program, as they are asked for from outside. -/
import Derived.Test.YtlfohihmkfphhaaJnfO
namespace Go.Proofs.Ytlfohihmkfphhaa
set_option linter.unusedVariables false
open Go.RowKit
open Go.Proofs.Huf
attribute [local go_sem ↓] Go.wp_at_zero Go.wp_at_succ
namespace Inf
open Huff
abbrev T22 : List Nat := [5, 65, 71, 22]
theorem Kp.wide {B : Nat} {w w' : World} (k : Kp TP B w w') : Kp T22 B w w' := ⟨k.below, fun i cs t r h ht => k.keep i cs t r h (fun hm => ht (show t ∈ ([5, 65, 71] ++ [22] : List Nat) from List.mem_append_left _ hm)), k.rdr⟩
abbrev t50K (S G B : Nat) (s : ByteArray) (v : Value) (out : List UInt8) (most g1 g2 : Nat) (t : List Nat × List Nat) (q : Nat) (x : Value) (w' : World) : Prop := x = .tuple #[] ∧ St w' S G B s q v out most ∧
  ∃ A1 b1 o1 c1 A2 b2 o2 c2, w'.heap[g1]? = some (.cells #[.slice A1 t.1.length c1] 22 (0, 0)) ∧ w'.heap[g2]? = some (.cells #[.slice A2 t.2.length c2] 22 (0, 0)) ∧ Ls w' A1 b1 o1 t.1 ∧ Ls w' A2 b2 o2 t.2 ∧ (∃ cs q, w'.heap[b1]? = some (.cells cs 3 q)) ∧ (∃ cs q, w'.heap[b2]? = some (.cells cs 3 q))
theorem rowSet {w : World} {b g i : Nat} {v : Value} {c : Array Value} {t : TypeId} {r : Nat × Nat} (h : ∃ cs q, w.heap[b]? = some (.cells cs 3 q)) (hg : w.heap[g]? = some (.cells c t r)) (ht : t ≠ 3) : ∃ cs q, (w.setCell ⟨g, i, none⟩ v).heap[b]? = some (.cells cs 3 q) := by
  obtain ⟨cs, q, hb⟩ := h
  refine ⟨cs, q, (heap_setCell_other w ⟨g, i, none⟩ b v ?_).trans hb⟩
  show b ≠ g
  rintro rfl
  rw [hb] at hg
  cases hg
  exact ht rfl
theorem Ls.cellE {w w' : World} {A : Option Addr} {b off : Nat} {l : List Nat} (h : Ls w A b off l) (hs : w.heap.size ≤ w'.heap.size) (hb : 0 < l.length → w'.heap[b]? = w.heap[b]?) : Ls w' A b off l := by
  refine ⟨h.ad, ⟨fun hp => Nat.lt_of_lt_of_le (h.row.lt hp) hs, fun i hi => ?_⟩, h.few, h.small⟩
  have h1 := h.row.at_ i hi
  unfold World.cell? at h1 ⊢
  rw [hb (by omega)]
  exact h1
theorem Ls.setBox {w : World} {A : Option Addr} {b off g : Nat} {l : List Nat} {v0 : Value} (h : Ls w A b off l) (hg : w.heap[g]? = some (.cells #[.slice none 0 0] 22 (0, 0))) (v : Value) : Ls (w.setCell ⟨g, 0, none⟩ v) A b off l := by
  refine h.cellE (by simp [World.setCell]) fun hp => heap_setCell_other w ⟨g, 0, none⟩ b v ?_
  show b ≠ g
  rintro rfl
  have h1 := h.row.at_ 0 hp
  rw [cell_of_row _ _ _ _ _ _ hg] at h1
  cases off with
  | zero => simp at h1
  | succ n => simp at h1
set_option maxRecDepth 100000 in
set_option maxHeartbeats 2000000 in
theorem tab50 (S G B : Nat) (s : ByteArray) (p K : Nat) (v : Value) (out : List UInt8) (most g1 g2 : Nat) (w : World) (h : St w S G B s p v out most) (hs : s.size ≤ 1048576) (hp : p ≤ 8 * s.size) (hF : 8 * s.size - p < K)
    (hg1 : w.heap[g1]? = some (.cells #[.slice none 0 0] 22 (0, 0))) (hg2 : w.heap[g2]? = some (.cells #[.slice none 0 0] 22 (0, 0))) (hne : g1 ≠ g2) (hB1 : B ≤ g1) (hB2 : B ≤ g2) :
    Calls Try.prog 50 #[.pointer (some ⟨S, 0, none⟩), .pointer (some ⟨g1, 0, none⟩), .pointer (some ⟨g2, 0, none⟩)] w fun e w' => Did (tablesP K (numS s) (8 * s.size) p) (t50K S G B s v out most g1 g2) e w' ∧ Kp T22 B w w' ∧ (∀ f, tablesP K (numS s) (8 * s.size) p = .bad f → Kp TP B w w') := by
  have HTW := hid (tablesW S G B s p K v out most w h hs hp hF)
  have HG1 := hid hg1
  have HG2 := hid hg2
  have HNE := hid hne
  clear h
  cases ht : tablesP K (numS s) (8 * s.size) p with
  | bad f =>
    rw [ht] at HTW
    clear ht
    go_enter Try.func50, Try.ntmps50
    go_wp2_with fail
    refine HTW.out.mono ?_
    rintro e w1 ⟨hd, k1⟩
    obtain rfl := hd.bad
    clear hd
    go_wp2_with fail
    exact ⟨rfl, rfl, k1.wide, fun _ _ => k1⟩
  | ok t q =>
    rw [ht] at HTW
    clear ht
    go_enter Try.func50, Try.ntmps50
    go_wp2_with fail
    refine HTW.out.mono ?_
    rintro e w1 ⟨⟨_, rfl, h1, A1, b1, o1, c1, A2, b2, o2, c2, rfl, hl1, hl2, hw1, hw2⟩, k1⟩
    have r1 := k1.keep _ _ _ _ HG1.out (by decide)
    have r2 := k1.keep _ _ _ _ HG2.out (by decide)
    have d1 : w1.cell? ⟨g1, 0, none⟩ = some (.slice none 0 0) := by rw [cell_of_row _ _ _ _ _ _ r1]; rfl
    have d2 : w1.cell? ⟨g2, 0, none⟩ = some (.slice none 0 0) := by rw [cell_of_row _ _ _ _ _ _ r2]; rfl
    have f1 : w1.frozen? ⟨g1, 0, none⟩ = false := frozen_of_row _ _ _ _ _ r1
    have f2 : w1.frozen? ⟨g2, 0, none⟩ = false := frozen_of_row _ _ _ _ _ r2
    have H1 := hid h1
    have L1 := hid hl1
    have L2 := hid hl2
    have K1 := hid k1
    have R1 := hid r1
    have R2 := hid r2
    have HW1 := hid hw1
    have HW2 := hid hw2
    clear hw1 hw2
    have S1 := hid (heap_setCell_same w1 g1 0 _ 22 (.slice A1 t.1.length c1) r1)
    have S2 := hid ((heap_setCell_other w1 ⟨g1, 0, none⟩ g2 (.slice A1 t.1.length c1) (fun e => HNE.out e.symm)).trans r2)
    have X1 := hid (h1.otherT r1 (by decide) (Only.setCell g1 w1 0 (.slice A1 t.1.length c1)))
    have X2 := hid (X1.out.otherT S2.out (by decide) (Only.setCell g2 _ 0 (.slice A2 t.2.length c2)))
    have KK := hid ((k1.wide.trans (.of_only (Only.setCell g1 w1 0 (.slice A1 t.1.length c1)) r1 (by decide) hB1)).trans (.of_only (Only.setCell g2 _ 0 (.slice A2 t.2.length c2)) S2.out (by decide) hB2))
    clear h1 hl1 hl2 k1 r1 r2
    have d2' : (w1.setCell ⟨g1, 0, none⟩ (.slice A1 t.1.length c1)).cell? ⟨g2, 0, none⟩ = some (.slice none 0 0) := by rw [cell_of_row _ _ _ _ _ _ S2.out]; rfl
    have f2' : (w1.setCell ⟨g1, 0, none⟩ (.slice A1 t.1.length c1)).frozen? ⟨g2, 0, none⟩ = false := frozen_of_row _ _ _ _ _ S2.out
    go_wp2_with fail
    go_returns
    exact ⟨⟨_, rfl, rfl, X2.out, A1, b1, o1, c1, A2, b2, o2, c2, (heap_setCell_other _ ⟨g2, 0, none⟩ g1 _ (fun e => HNE.out e)).trans S1.out, heap_setCell_same _ g2 0 _ 22 _ S2.out, (L1.out.setBox (v0 := .nilFunc) R1.out _).setBox (v0 := .nilFunc) S2.out _, (L2.out.setBox (v0 := .nilFunc) R1.out _).setBox (v0 := .nilFunc) S2.out _, rowSet (rowSet HW1.out R1.out (by decide)) S2.out (by decide), rowSet (rowSet HW2.out R1.out (by decide)) S2.out (by decide)⟩, KK.out, fun f e => by cases e⟩
set_option maxRecDepth 100000 in
set_option maxHeartbeats 2000000 in
theorem caughtT (S G B : Nat) (s : ByteArray) (p K : Nat) (v : Value) (out : List UInt8) (most g1 g2 : Nat) (w : World) (h : St w S G B s p v out most) (hs : s.size ≤ 1048576) (hp : p ≤ 8 * s.size) (hF : 8 * s.size - p < K)
    (hg1 : w.heap[g1]? = some (.cells #[.slice none 0 0] 22 (0, 0))) (hg2 : w.heap[g2]? = some (.cells #[.slice none 0 0] 22 (0, 0))) (hne : g1 ≠ g2) (hB1 : B ≤ g1) (hB2 : B ≤ g2) :
    Calls Try.prog 39 #[.func (.func 50) #[] #[.pointer (some ⟨S, 0, none⟩), .pointer (some ⟨g1, 0, none⟩), .pointer (some ⟨g2, 0, none⟩)]] w fun e w' => (match tablesP K (numS s) (8 * s.size) p with
      | .ok t q => e = .returned (.int .i64 0) ∧ t50K S G B s v out most g1 g2 t q (.tuple #[]) w'
      | .bad f => e = .returned (.int .i64 (codeOf f : Int)) ∧ w'.heap[g1]? = some (.cells #[.slice none 0 0] 22 (0, 0)) ∧ w'.heap[g2]? = some (.cells #[.slice none 0 0] 22 (0, 0))) ∧ Kp T22 B w w' := by
  have hmf : ∀ (fn : Fn) (first cap : Array Value) (w : World), (Instr.makeFunc fn first cap).run Try.prog w = .ok (.func fn first cap) w := fun _ _ _ _ => rfl
  have HBS := hid h.size
  have hb0 := (Below.refl w.heap.size w).alloc (Nat.le_refl _) (.cells #[.int .i64 0] 35)
  have hl1 := (Array.getElem?_eq_some_iff.1 hg1).1
  have hl2 := (Array.getElem?_eq_some_iff.1 hg2).1
  have HBW := hid (tab50 S G B s p K v out most g1 g2 (w.alloc (.cells #[.int .i64 0] 35)) (h.grow hb0) hs hp hF ((hb0.block g1 hl1).trans hg1) ((hb0.block g2 hl2).trans hg2) hne hB1 hB2)
  have HNB := hid (heap_alloc_new w (.cells #[.int .i64 0] 35))
  have HK0 := hid (Kp.of_below (T := T22) hb0 h.size)
  have HG1 := hid ((hb0.block g1 hl1).trans hg1)
  have HG2 := hid ((hb0.block g2 hl2).trans hg2)
  have HL := hid (And.intro hl1 hl2)
  clear h hb0 hl1 hl2
  cases hb : tablesP K (numS s) (8 * s.size) p with
  | bad f =>
    rw [hb] at HBW
    clear hb
    go_enter_defers Try.func39, Try.ntmps39
    go_wp2_with fail
    refine HBW.out.mono ?_
    rintro e w1 ⟨hd, k1, k2⟩
    obtain rfl := hd.bad
    clear hd
    have hcell := k1.keep _ _ _ _ HNB.out (by decide)
    have K1 := hid (HK0.out.trans k1)
    have G1 := hid ((k2 f rfl).keep _ _ _ _ HG1.out (by decide))
    have G2 := hid ((k2 f rfl).keep _ _ _ _ HG2.out (by decide))
    have c0 : w1.cell? ⟨w.heap.size, 0, none⟩ = some (.int .i64 0) := by rw [cell_of_row _ _ _ _ _ _ hcell]; rfl
    have f0 : w1.frozen? ⟨w.heap.size, 0, none⟩ = false := frozen_of_row _ _ _ _ _ hcell
    have hlt := (Array.getElem?_eq_some_iff.1 hcell).1
    clear k2
    go_wp2_with fail
    refine leaves_cons (f := 62) (args := #[.pointer (some ⟨w.heap.size, 0, none⟩)]) (by simp) (by simp [go_sem]) ?_
    refine (catchW f w.heap.size [] w1 0 c0 f0 hlt).mono ?_
    rintro e u' w2 ⟨rfl, rfl, T, rfl⟩
    have hset := heap_setCell_same w1 w.heap.size 0 _ 35 (.int .i64 (codeOf f : Int)) hcell
    have hc2 : ((w1.setCell ⟨w.heap.size, 0, none⟩ (.int .i64 (codeOf f : Int))).alloc (.cells #[] T)).cell? ⟨w.heap.size, 0, none⟩ = some (.int .i64 (codeOf f : Int)) := by
      rw [World.cell?_alloc_past _ _ _ (by simp [World.setCell]; exact hlt), cell_of_row _ _ _ _ _ _ hset]
      rfl
    have hrow : ∀ g, g < w.heap.size → w1.heap[g]? = some (.cells #[.slice none 0 0] 22 (0, 0)) → ((w1.setCell ⟨w.heap.size, 0, none⟩ (.int .i64 (codeOf f : Int))).alloc (.cells #[] T)).heap[g]? = some (.cells #[.slice none 0 0] 22 (0, 0)) := fun g hg hr =>
      (Below.heap_alloc _ _ _ (by simp [World.setCell]; omega)).trans ((heap_setCell_other w1 ⟨w.heap.size, 0, none⟩ g _ (by show g ≠ w.heap.size; omega)).trans hr)
    have HR1 := hid (hrow g1 HL.out.1 G1.out)
    have HR2 := hid (hrow g2 HL.out.2 G2.out)
    clear hrow
    simp [Leaves, settle, results, Try.results39, go_sem, hc2]
    exact ⟨⟨HR1.out, HR2.out⟩, (K1.out.setNew HBS.out (Nat.le_refl _)).alloc (by have := HBS.out; simp [World.setCell]; omega) _⟩
  | ok t q =>
    rw [hb] at HBW
    clear hb
    go_enter_defers Try.func39, Try.ntmps39
    go_wp2_with fail
    refine HBW.out.mono ?_
    rintro e w1 ⟨⟨_, rfl, rfl, h1, A1, b1, o1, c1, A2, b2, o2, c2, r1, r2, hl1, hl2, hw1, hw2⟩, k1, _⟩
    have hcell := k1.keep _ _ _ _ HNB.out (by decide)
    have c0 : w1.cell? ⟨w.heap.size, 0, none⟩ = some (.int .i64 0) := by rw [cell_of_row _ _ _ _ _ _ hcell]; rfl
    have f0 : w1.frozen? ⟨w.heap.size, 0, none⟩ = false := frozen_of_row _ _ _ _ _ hcell
    have K1 := hid (HK0.out.trans k1)
    have H1 := hid h1
    have HCL := hid hcell
    have HW1 := hid hw1
    have HW2 := hid hw2
    clear hw1 hw2
    have R1 := hid r1
    have R2 := hid r2
    have L1 := hid hl1
    have L2 := hid hl2
    clear k1 h1 hcell r1 r2 hl1 hl2
    go_wp2_with fail
    refine leaves_cons (f := 62) (args := #[.pointer (some ⟨w.heap.size, 0, none⟩)]) (by simp) (by simp [go_sem]) ?_
    refine (catch_idle w.heap.size _).mono ?_
    rintro e u' w2 ⟨rfl, rfl, rfl⟩
    have hset := heap_setCell_same w1 w.heap.size 0 _ 35 (.int .i64 0) HCL.out
    have hc2 : (w1.setCell ⟨w.heap.size, 0, none⟩ (.int .i64 0)).cell? ⟨w.heap.size, 0, none⟩ = some (.int .i64 0) := by
      rw [cell_of_row _ _ _ _ _ _ hset]
      rfl
    simp [Leaves, settle, results, Try.results39, go_sem, hc2]
    have hs1 : ∀ {A : Option Addr} {b off : Nat} {l : List Nat}, Ls w1 A b off l → Ls (w1.setCell ⟨w.heap.size, 0, none⟩ (.int .i64 0)) A b off l := fun {A b off l} h => by
      have e : w1.setCell ⟨w.heap.size, 0, none⟩ (.int .i64 0) = w1.setCell ⟨w.heap.size, 0, none⟩ (.int .i64 0) := rfl
      refine ⟨h.ad, ⟨fun hp => by have := h.row.lt hp; simpa [World.setCell] using this, fun i hi => ?_⟩, h.few, h.small⟩
      have h1 := h.row.at_ i hi
      by_cases hb : b = w.heap.size
      · subst hb
        rw [cell_of_row _ _ _ _ _ _ HCL.out] at h1
        rw [cell_of_row _ _ _ _ _ _ hset]
        exact h1
      · unfold World.cell? at h1 ⊢
        rw [heap_setCell_other w1 ⟨w.heap.size, 0, none⟩ b _ hb]
        exact h1
    exact ⟨⟨rfl, H1.out.otherT HCL.out (by decide) (Only.setCell _ _ _ _), A1, b1, o1, c1, A2, b2, o2, c2, (heap_setCell_other w1 ⟨w.heap.size, 0, none⟩ g1 _ (by show g1 ≠ w.heap.size; have := HL.out.1; omega)).trans R1.out, (heap_setCell_other w1 ⟨w.heap.size, 0, none⟩ g2 _ (by show g2 ≠ w.heap.size; have := HL.out.2; omega)).trans R2.out, hs1 L1.out, hs1 L2.out, rowSet HW1.out HCL.out (by decide), rowSet HW2.out HCL.out (by decide)⟩, K1.out.setNew HBS.out (Nat.le_refl _)⟩
end Inf
end Go.Proofs.Ytlfohihmkfphhaa
