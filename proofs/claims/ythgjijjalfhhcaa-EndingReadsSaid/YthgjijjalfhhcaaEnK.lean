/- EndingReads: the document's example: how many bytes an end of noughts has. -/
import Derived.Test.YthgjijjalfhhcaaEnJ
import Derived.Test.YthgjijjalfhhcaaEnV
namespace Go.Proofs.Ythgjijjalfhhcaa
set_option linter.unusedVariables false
open Go.RowKit
open Go.Proofs.Num
attribute [local go_sem ↓] Go.wp_at_zero Go.wp_at_succ
namespace Edg
open Fld

/-- A writer of so many bytes at G, the end's box at B. -/
structure Wn (w W : World) (B G m : Nat) : Prop where
  wr : ∃ l : List UInt8, l.length = m ∧ Wr W G l
  box : W.heap[B]? = some (.cells #[.int .i64 0, .int .i64 0, .int .i64 0, .int .i64 0] 72 (0, 0))
  below : Below w.heap.size w W
  lt : B < G
  le : w.heap.size ≤ B
theorem Wn.step {w W W' : World} {B G m k : Nat} (h : Wn w W B G m) (hw : ∃ l : List UInt8, l.length = k ∧ Wr W' G l) (hb : Below G W W') : Wn w W' B G k :=
  ⟨hw, (hb.block B h.lt).trans h.box, h.below.trans (hb.mono (by have := h.lt; have := h.le; omega)), h.lt, h.le⟩
theorem Wn.drew {w W : World} {B G m : Nat} (h : Wn w W B G m) : Wn w W.drew B G m := by
  obtain ⟨l, h1, h2⟩ := h.wr
  exact ⟨⟨l, h1, h2.drew⟩, h.box, h.below.drew, h.lt, h.le⟩
theorem Wn.alloc {w W : World} {B G m : Nat} (h : Wn w W B G m) (o : Obj) : Wn w (W.alloc o) B G m := by
  obtain ⟨l, h1, h2⟩ := h.wr
  exact ⟨⟨l, h1, h2.alloc o⟩, (Below.heap_alloc _ _ _ (Array.getElem?_eq_some_iff.1 h.box).1).trans h.box, h.below.alloc h.below.size _, h.lt, h.le⟩
theorem Wn.cells {w W : World} {B G m : Nat} (h : Wn w W B G m) : W.cell? ⟨B, 0, none⟩ = some (.int .i64 0) ∧ W.cell? ⟨B, 1, none⟩ = some (.int .i64 0) ∧ W.cell? ⟨B, 2, none⟩ = some (.int .i64 0) ∧ W.cell? ⟨B, 3, none⟩ = some (.int .i64 0) :=
  four_cells (Below.refl _ _) h.box
theorem wn_num {w W : World} {B G m : Nat} (h : Wn w W B G m) (n k : Int) (h0 : 0 ≤ n) (h1 : n ≤ 18446744073709551615) (k0 : 0 ≤ k) (k1 : k ≤ 8) (hm : m ≤ 1000) :
    Calls Try.prog 100 #[.pointer (some ⟨G, 0, none⟩), .int .u64 n, .int .i64 k] W fun e W' => e = .returned (.pointer (some ⟨G, 0, none⟩)) ∧ Wn w W' B G (m + k.toNat) := by
  obtain ⟨l, hl, hw⟩ := h.wr
  obtain ⟨a, rfl⟩ := Int.eq_ofNat_of_zero_le h0
  refine (wnum G l a k W hw (by omega) (by omega) (by omega) (by omega)).mono ?_
  rintro e W' ⟨rfl, hw', hb, _⟩
  refine ⟨rfl, h.step ⟨_, ?_, hw'⟩ hb⟩
  rw [List.length_append, putL_length, hl]
  unfold wideN
  omega

theorem row_step {W W' : World} {g : Nat} {o : Obj} (h : W.heap[g]? = some o) (hb : Below W.heap.size W W') : W'.heap[g]? = some o := (hb.block g (Array.getElem?_eq_some_iff.1 h).1).trans h

theorem wr_new (W : World) : Wr (W.alloc (.cells #[.slice none 0 0] 130)) W.heap.size [] :=
  ⟨.slice none 0 0, heap_alloc_new _ _, World.ownsRow_nil _ _ _ _⟩

theorem setCell_same_row {w : World} {g : Nat} {T : TypeId} {a b c d : Value} (h : w.heap[g]? = some (.cells #[a, b, c, d] T (0, 0))) : (w.setCell ⟨g, 3, none⟩ d).heap[g]? = some (.cells #[a, b, c, d] T (0, 0)) :=
  heap_setCell_same w g 3 _ T d h

set_option maxRecDepth 100000 in
set_option maxHeartbeats 2000000 in
theorem write0 (w : World) : Calls Try.prog 86 #[endV 0 0 0 0, .string ByteArray.empty] w fun e w' => (∃ t : ByteArray, t.size = 22 ∧ e = .returned (.string t)) ∧ Below w.heap.size w w' := by
  have HB := hid (rw_new w 72)
  go_enter Try.func86, Try.ntmps86
  go_upto_region 1 with fail
  generalize w.alloc (.cells #[.int .i64 0, .int .i64 0, .int .i64 0, .int .i64 0] 72) = W1 at HB ⊢
  obtain ⟨r0, r1, r2, r3⟩ := four_cells (Below.refl _ _) HB.out.res
  have f3 := frozen_of_row W1 w.heap.size 3 _ _ HB.out.res
  go_upto_region 2 with fail
  have H2 := hid (setCell_same_row HB.out.res)
  have H2b := hid (HB.out.below.setCell (p := ⟨w.heap.size, 3, none⟩) (Nat.le_refl _) (.int .i64 0))
  clear r0 r1 r2 r3 f3 HB
  generalize W1.setCell ⟨w.heap.size, 3, none⟩ (.int .i64 0) = W2 at H2 H2b ⊢
  obtain ⟨r0, r1, r2, r3⟩ := four_cells (Below.refl _ _) H2.out
  go_wp2_with fail
  refine (right 0 0 0 0 _ (by omega) (by omega) (by omega) (by omega) (by omega) (by omega)).mono ?_
  rintro e w3 ⟨rfl, b3⟩
  have hr : rightB 0 0 = true := by decide
  have H3 := hid (row_step H2.out b3)
  have H3b := hid (H2b.out.trans (b3.mono H2b.out.size))
  have H3s := hid (show w.heap.size < w3.heap.size from by
    have h1 := (Array.getElem?_eq_some_iff.1 H2.out).1
    have h2 := b3.size
    omega)
  clear b3 H2b
  clear r0 r1 r2 r3
  go_upto_region 5 with fail
  have K0 := hid (show Wn w (w3.alloc (.cells #[.slice none 0 0] 130)) w.heap.size w3.heap.size 0 from
    ⟨⟨[], rfl, wr_new w3⟩, row_step H3.out ((Below.refl _ _).alloc (Nat.le_refl _) _), H3b.out.alloc H3b.out.size _, H3s.out, Nat.le_refl _⟩)
  clear H3 H3b H2
  generalize w3.alloc (.cells #[.slice none 0 0] 130) = W4 at K0 ⊢
  generalize w3.heap.size = G at K0 H3s ⊢
  have c0 := hid K0.out.cells.1
  go_region_held3 (fun w' => w'.cell? ⟨w.heap.size, 0, none⟩ = some (.int .i64 0)) (first | exact c0.out | exact K5.out.cells.1 | exact K4.out.cells.1 | exact K3.out.cells.1 | exact K2.out.cells.1 | exact K1.out.cells.1 | go_keep)
    (first
      | (have tok := K4.out; clear tok; go_at_call 100; refine (wn_num (by first | exact K4.out | exact K4.out.drew) 0 2 (by omega) (by omega) (by omega) (by omega) (by omega)).mono ?_; rintro e w9 ⟨rfl, h⟩; have K5 := hid h; clear h)
      | (have tok := K3.out; clear tok; go_at_call 100; refine (wn_num (by first | exact K3.out | exact K3.out.drew) 0 2 (by omega) (by omega) (by omega) (by omega) (by omega)).mono ?_; rintro e w8 ⟨rfl, h⟩; have K4 := hid h; clear h)
      | (have tok := K2.out; clear tok; go_at_call 100; refine (wn_num (by first | exact K2.out | exact K2.out.drew) 0 2 (by omega) (by omega) (by omega) (by omega) (by omega)).mono ?_; rintro e w7 ⟨rfl, h⟩; have K3 := hid h; clear h)
      | (have tok := K1.out; clear tok; go_at_call 100; refine (wn_num (by first | exact K1.out | exact K1.out.drew) 0 2 (by omega) (by omega) (by omega) (by omega) (by omega)).mono ?_; rintro e w6 ⟨rfl, h⟩; have K2 := hid h; clear h)
      | (go_at_call 100; refine (wn_num (by first | exact K0.out | exact K0.out.drew) 101010256 4 (by omega) (by omega) (by omega) (by omega) (by omega)).mono ?_; rintro e w5 ⟨rfl, h⟩; have K1 := hid h; clear h))
  go_upto_region 6 with fail
  have hm5 : 0 + (4 : Int).toNat + (2 : Int).toNat + (2 : Int).toNat + (2 : Int).toNat + (2 : Int).toNat = 12 := by decide
  have hK5 := K5.out
  rw [hm5] at hK5
  have L0 := hid hK5
  clear K0 K1 K2 K3 K4 K5 hK5 c0 hm5
  have c1 := hid L0.out.cells.2
  go_region_held3 (fun w' => w'.cell? ⟨w.heap.size, 1, none⟩ = some (.int .i64 0) ∧ w'.cell? ⟨w.heap.size, 2, none⟩ = some (.int .i64 0) ∧ w'.cell? ⟨w.heap.size, 3, none⟩ = some (.int .i64 0)) (first | exact c1.out | exact L3.out.cells.2 | exact L2.out.cells.2 | exact L1.out.cells.2 | go_keep)
    (first
      | (have tok := L2.out; clear tok; go_at_call 100; refine (wn_num (by first | exact L2.out | exact L2.out.drew) 0 2 (by omega) (by omega) (by omega) (by omega) (by omega)).mono ?_; rintro e w12 ⟨rfl, h⟩; have L3 := hid h; clear h)
      | (have tok := L1.out; clear tok; go_at_call 100; refine (wn_num (by first | exact L1.out | exact L1.out.drew) 0 4 (by omega) (by omega) (by omega) (by omega) (by omega)).mono ?_; rintro e w11 ⟨rfl, h⟩; have L2 := hid h; clear h)
      | (go_at_call 100; refine (wn_num (by first | exact L0.out | exact L0.out.drew) 0 4 (by omega) (by omega) (by omega) (by omega) (by omega)).mono ?_; rintro e w10 ⟨rfl, h⟩; have L1 := hid h; clear h))
  have hm6 : 12 + (4 : Int).toNat + (4 : Int).toNat + (2 : Int).toNat = 22 := by decide
  have hL3 := L3.out
  rw [hm6] at hL3
  have M0 := hid hL3
  clear L0 L1 L2 L3 hL3 c1 hm6
  go_wp2_with fail
  obtain ⟨l, hl, hw⟩ := (M0.out.alloc (.cells #[.string ByteArray.empty] 9)).wr
  refine (wtext G w12.heap.size 1 l [ByteArray.empty] _ hw (lie_new w12 [ByteArray.empty]) (by simp [hl]) (by simp)).mono ?_
  rintro e w13 ⟨rfl, hw13, hb13, _⟩
  have N0 := hid hw13
  have N1 := hid (M0.out.below.trans (((Below.refl _ w12).alloc (Nat.le_refl _) (.cells #[.string ByteArray.empty] 9)).mono M0.out.below.size))
  have N2 := hid (hb13.mono (show w.heap.size ≤ G by have := H3s.out; omega))
  clear hw13 hb13 hw
  go_wp2_with fail
  refine (wbytes G _ _ N0.out).mono ?_
  rintro e w14 ⟨rfl, rfl⟩
  go_wp2_with fail
  go_ret
  exact ⟨⟨_, by simp [ByteArray.size, hl], rfl⟩, N1.out.trans N2.out⟩

theorem lives (w : World) : Calls Try.prog 53 #[] w fun e w' => e = .returned (.bool true) ∧ Below w.heap.size w w' := by
  go_enter Try.func53, Try.ntmps53
  go_wp2_with fail
  refine (write0 _).mono ?_
  rintro e w1 ⟨⟨t, ht, rfl⟩, hb⟩
  have h22 : (t.size : Int) = 22 := by omega
  have HB := hid hb
  clear hb ht
  go_wp2_with fail
  go_ret
  exact ⟨rfl, HB.out⟩
end Edg
end Go.Proofs.Ythgjijjalfhhcaa
