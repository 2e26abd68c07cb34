/- LZ: the boxes of the search for the best token. -/
import Derived.Test.YtlhgkemiakekoaaLzS
namespace Go.Proofs.Ytlhgkemiakekoaa
set_option linter.unusedVariables false
open Go.RowKit Go.Shelf
namespace Lz
theorem Ch.setOther {W : World} {s : ByteArray} {G B R n : Nat} (h : Ch W s G B R n) {k : Nat} (i : Nat) (v : Value) (h1 : k ≠ G) (h2 : k ≠ R) (h3 : k ≠ B) : Ch (W.setCell ⟨k, i, none⟩ v) s G B R n := by
  obtain ⟨D, e1, e2, e3⟩ := h.mp
  obtain ⟨cs, f, e4, e5⟩ := h.rR
  exact ⟨(heap_setCell_other W ⟨k, i, none⟩ G _ (Ne.symm h1)).trans h.rG, ⟨D, e1.kept (row := some k) ⟨rfl, rfl, rfl, by simp, fun j _ hj => heap_setCell_other W ⟨k, i, none⟩ j _ (fun e => hj (by rw [e]))⟩ (fun e => h3 (by simpa using e.symm)), e2, e3⟩,
    ⟨cs, f, (heap_setCell_other W ⟨k, i, none⟩ R _ (Ne.symm h2)).trans e4, e5⟩, h.ne1, h.ne2, h.ne3⟩
theorem St.setOther {W : World} {s : ByteArray} {G B R p B2 B3 : Nat} (h : St W s G B R p B2 B3) {k : Nat} (i : Nat) (v : Value) (h1 : k ≠ G) (h2 : k ≠ R) (h3 : k ≠ B) (h4 : k ≠ B2) (h5 : k ≠ B3) : St (W.setCell ⟨k, i, none⟩ v) s G B R p B2 B3 :=
  ⟨h.ch.setOther i v h1 h2 h3, (heap_setCell_other W ⟨k, i, none⟩ B2 _ (Ne.symm h4)).trans h.b2, (heap_setCell_other W ⟨k, i, none⟩ B3 _ (Ne.symm h5)).trans h.b3⟩
/-- The boxes: where the chains lie, the place, how many tries, the answer, the best token, how long it is. -/
structure Bs (a : Nat) (W : World) (s : ByteArray) (G B R p g8 g9 : Nat) (T x y z L : Int) : Prop where
  ch : Ch W s G B R p
  r3 : W.heap[a]? = some (.cells #[.pointer (some ⟨G, 0, none⟩)] 43 (0, 0))
  r4 : W.heap[a + 1]? = some (.cells #[.int .i64 p] 3 (0, 0))
  r5 : W.heap[a + 1 + 1]? = some (.cells #[.int .i64 T] 3 (0, 0))
  r6 : W.heap[a + 1 + 1 + 1]? = some (.cells #[.int .u8 0, .int .i64 0, .int .i64 0] 24 (0, 0))
  r8 : W.heap[g8]? = some (.cells #[.int .u8 x, .int .i64 y, .int .i64 z] 24 (0, 0))
  r9 : W.heap[g9]? = some (.cells #[.int .i64 L] 3 (0, 0))
section
variable {a : Nat} {W W' : World} {s : ByteArray} {G B R p g8 g9 : Nat} {T x y z L : Int}
theorem Bs.step (h : Bs a W s G B R p g8 g9 T x y z L) (hb : Below W.heap.size W W') : Bs a W' s G B R p g8 g9 T x y z L :=
  ⟨h.ch.step hb, row_b h.r3 hb, row_b h.r4 hb, row_b h.r5 hb, row_b h.r6 hb, row_b h.r8 hb, row_b h.r9 hb⟩
theorem Ch.kept {n : Nat} {row : Option Nat} (h : Ch W s G B R n) (hg : W.grownBy W' row) (hr : ∀ r, row = some r → r ≠ B ∧ ∃ o : Obj, W.heap[r]? = some o ∧ o.isCells = false) : Ch W' s G B R n := by
  obtain ⟨D, h1, h2, h3⟩ := h.mp
  obtain ⟨cs, f, h4, h5⟩ := h.rR
  exact ⟨row_kept h.rG hg (fun r e => (hr r e).2), ⟨D, h1.kept hg (fun e => (hr B e.symm).1 rfl), h2, h3⟩, ⟨cs, f, row_kept h4 hg (fun r e => (hr r e).2), h5⟩, h.ne1, h.ne2, h.ne3⟩
theorem Bs.kept {row : Option Nat} (h : Bs a W s G B R p g8 g9 T x y z L) (hg : W.grownBy W' row) (hr : ∀ r, row = some r → r ≠ B ∧ ∃ o : Obj, W.heap[r]? = some o ∧ o.isCells = false) : Bs a W' s G B R p g8 g9 T x y z L :=
  have hc := fun r e => (hr r e).2
  ⟨h.ch.kept hg hr, row_kept h.r3 hg hc, row_kept h.r4 hg hc, row_kept h.r5 hg hc, row_kept h.r6 hg hc, row_kept h.r8 hg hc, row_kept h.r9 hg hc⟩
/-- The blocks are apart. -/
structure Apart (a G B R g8 g9 : Nat) : Prop where
  hG : G < a
  hB : B < a
  hR : R < a
  h8 : a + 4 ≤ g8
  h9 : a + 4 ≤ g9
  h89 : g8 ≠ g9
theorem Bs.set5 (h : Bs a W s G B R p g8 g9 T x y z L) (q : Apart a G B R g8 g9) (T' : Int) : Bs a (W.setCell ⟨a + 1 + 1, 0, none⟩ (.int .i64 T')) s G B R p g8 g9 T' x y z L := by
  obtain ⟨q1, q2, q3, q4, q5, q6⟩ := q
  have o : ∀ j, j ≠ a + 1 + 1 → (W.setCell ⟨a + 1 + 1, 0, none⟩ (.int .i64 T')).heap[j]? = W.heap[j]? := fun j hj => heap_setCell_other W ⟨a + 1 + 1, 0, none⟩ j _ hj
  exact ⟨h.ch.setOther 0 _ (by omega) (by omega) (by omega), (o _ (by omega)).trans h.r3, (o _ (by omega)).trans h.r4, heap_setCell_same W (a + 1 + 1) 0 _ 3 _ h.r5, (o _ (by omega)).trans h.r6, (o _ (by omega)).trans h.r8, (o _ (by omega)).trans h.r9⟩
theorem Bs.set9 (h : Bs a W s G B R p g8 g9 T x y z L) (q : Apart a G B R g8 g9) (L' : Int) : Bs a (W.setCell ⟨g9, 0, none⟩ (.int .i64 L')) s G B R p g8 g9 T x y z L' := by
  obtain ⟨q1, q2, q3, q4, q5, q6⟩ := q
  have o : ∀ j, j ≠ g9 → (W.setCell ⟨g9, 0, none⟩ (.int .i64 L')).heap[j]? = W.heap[j]? := fun j hj => heap_setCell_other W ⟨g9, 0, none⟩ j _ hj
  exact ⟨h.ch.setOther 0 _ (by omega) (by omega) (by omega), (o _ (by omega)).trans h.r3, (o _ (by omega)).trans h.r4, (o _ (by omega)).trans h.r5, (o _ (by omega)).trans h.r6, (o _ q6).trans h.r8, heap_setCell_same W g9 0 _ 3 _ h.r9⟩
theorem Bs.set8 (h : Bs a W s G B R p g8 g9 T x y z L) (q : Apart a G B R g8 g9) (x' y' z' : Int) :
    Bs a (((W.setCell ⟨g8, 0, none⟩ (.int .u8 x')).setCell ⟨g8, 1, none⟩ (.int .i64 y')).setCell ⟨g8, 2, none⟩ (.int .i64 z')) s G B R p g8 g9 T x' y' z' L := by
  obtain ⟨q1, q2, q3, q4, q5, q6⟩ := q
  have o : ∀ j, j ≠ g8 → (((W.setCell ⟨g8, 0, none⟩ (.int .u8 x')).setCell ⟨g8, 1, none⟩ (.int .i64 y')).setCell ⟨g8, 2, none⟩ (.int .i64 z')).heap[j]? = W.heap[j]? := fun j hj =>
    (heap_setCell_other _ ⟨g8, 2, none⟩ j _ hj).trans ((heap_setCell_other _ ⟨g8, 1, none⟩ j _ hj).trans (heap_setCell_other _ ⟨g8, 0, none⟩ j _ hj))
  have h1 := heap_setCell_same W g8 0 _ 24 (.int .u8 x') h.r8
  have h2 := heap_setCell_same _ g8 1 _ 24 (.int .i64 y') h1
  have h3 := heap_setCell_same _ g8 2 _ 24 (.int .i64 z') h2
  exact ⟨((h.ch.setOther 0 _ (by omega) (by omega) (by omega)).setOther 1 _ (by omega) (by omega) (by omega)).setOther 2 _ (by omega) (by omega) (by omega), (o _ (by omega)).trans h.r3, (o _ (by omega)).trans h.r4, (o _ (by omega)).trans h.r5, (o _ (by omega)).trans h.r6, h3, (o _ (Ne.symm q6)).trans h.r9⟩
end
/-- A byte; or a copy, as long as it goes. -/
def Good (s : ByteArray) (p : Nat) (x y z L : Int) : Prop := (x = (byteT s p : Nat) ∧ y = 0 ∧ z = 0 ∧ L = 1) ∨ ∃ k : Nat, IsBk s p k ∧ x = 0 ∧ y = L ∧ z = (k : Int) ∧ L = (longF s p k 258 0 : Nat) ∧ 3 ≤ L
theorem longF_ge (s : ByteArray) (a k : Nat) : ∀ f n, n ≤ longF s a k f n ∧ longF s a k f n ≤ n + f := by
  intro f
  induction f with
  | zero => intro n; exact ⟨Nat.le_refl _, Nat.le_refl _⟩
  | succ f ih =>
    intro n
    unfold longF
    split
    · have := ih (n + 1); omega
    · omega
theorem long_bk {s : ByteArray} {p k : Nat} (h : IsBk s p k) : LongI s p k = longF s p k 258 0 ∧ 3 ≤ longF s p k 258 0 := by
  obtain ⟨h1, h2, h3, h4, h5, h6, h7⟩ := h
  refine ⟨if_pos ⟨by omega, by omega, by omega⟩, ?_⟩
  have e0 : longF s p k 258 0 = longF s p k 257 1 := if_pos ⟨by omega, by rw [Nat.add_zero]; exact h5.symm⟩
  have e1 : longF s p k 257 1 = longF s p k 256 2 := if_pos ⟨by omega, by rw [show p + 1 - k = p - k + 1 by omega]; exact h6.symm⟩
  have e2 : longF s p k 256 2 = longF s p k 255 3 := if_pos ⟨by omega, by rw [show p + 2 - k = p - k + 2 by omega]; exact h7.symm⟩
  rw [e0, e1, e2]
  exact (longF_ge s p k 255 3).1
theorem Good.ge {s : ByteArray} {p : Nat} {x y z L : Int} (h : Good s p x y z L) : 1 ≤ L ∧ L ≤ 258 := by
  rcases h with ⟨_, _, _, h⟩ | ⟨k, _, _, _, _, h, h3⟩
  · omega
  · have := (longF_ge s p k 258 0).2; omega
end Lz
end Go.Proofs.Ytlhgkemiakekoaa
