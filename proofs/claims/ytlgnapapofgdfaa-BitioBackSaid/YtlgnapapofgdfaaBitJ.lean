/- BitioBack: what the range over the bits speaks of. -/
import Derived.Test.YtlgnapapofgdfaaBitI
namespace Go.Proofs.Ytlgnapapofgdfaa
set_option linter.unusedVariables false
open Go.RowKit Go.Shelf
open Go.Proofs.Bit

theorem own_kept {W W' : World} {row : Option Nat} {b0 T k : Nat} {v : Value} {xs : List Value} (h : W.ownsRow b0 T 1 v k xs) (hg : W.grownBy W' row) (hr : ∀ r, row = some r → ∃ o : Obj, W.heap[r]? = some o ∧ (o.isCells = false ∨ ∃ cs t f, o = .cells cs t f ∧ t ≠ T)) : W'.ownsRow b0 T 1 v k xs := by
  refine h.kept hg ?_
  rcases h.2 with ⟨rfl, _⟩ | ⟨g, cap, cur, rfl, _, hgc, _⟩
  · exact .inl rfl
  · refine .inr fun e => ?_
    obtain ⟨o, h1, h2⟩ := hr g e.symm
    rw [hgc] at h1
    cases h1
    rcases h2 with h2 | ⟨cs, t, f, h3, h4⟩
    · cases h2
    · cases h3
      exact h4 rfl

theorem Wt.kept {W W' : World} {row : Option Nat} {b0 G N n : Nat} (h : Wt W b0 G N n) (hg : W.grownBy W' row) (hr : ∀ r, row = some r → ∃ o : Obj, W.heap[r]? = some o ∧ o.isCells = false) : Wt W' b0 G N n := by
  obtain ⟨hN, v, hR⟩ := h
  have hb : W'.heap[G]? = W.heap[G]? := by
    refine hg.block G hR.lt fun e => ?_
    obtain ⟨o, h1, h2⟩ := hr G e.symm
    rw [hR.blk] at h1
    cases h1
    cases h2
  exact ⟨hN, v, hR.low, hb.trans hR.blk, own_kept hR.own hg (fun r e => by obtain ⟨o, h1, h2⟩ := hr r e; exact ⟨o, h1, .inl h2⟩)⟩
theorem Wt.set {W : World} {b0 G N n D T : Nat} {cs : Array Value} (h : Wt W b0 G N n) (hD : W.heap[D]? = some (.cells cs T (0, 0))) (ht : T ≠ 5) (hG : G ≠ D) (i : Nat) (u : Value) : Wt (W.setCell ⟨D, i, none⟩ u) b0 G N n := by
  obtain ⟨hN, v, hR⟩ := h
  refine ⟨hN, v, hR.low, (heap_setCell_other W ⟨D, i, none⟩ G u hG).trans hR.blk, own_kept hR.own (row := some D) ⟨rfl, rfl, rfl, by simp [World.setCell], fun k _ hk => heap_setCell_other W ⟨D, i, none⟩ k u (fun e => hk (by rw [e]))⟩ (fun r e => ?_)⟩
  cases e
  exact ⟨_, hD, .inr ⟨cs, T, (0, 0), rfl, ht⟩⟩

/-- The range's state: the second writer, the number that came in, how many have come. -/
structure Vs (w W : World) (most : Int) (D N n : Nat) : Prop where
  wt : Wt W (w.heap.size + 3) (w.heap.size + 2) N n
  box : W.heap[w.heap.size]? = some (.cells #[.int .u64 most] 31 (0, 0))
  nb : W.heap[D]? = some (.cells #[.int .u64 (n : Int)] 31 (0, 0))
  big : w.heap.size + 3 ≤ D
theorem Vs.kept {w W W' : World} {row : Option Nat} {most : Int} {D N n : Nat} (h : Vs w W most D N n) (hg : W.grownBy W' row) (hr : ∀ r, row = some r → ∃ o : Obj, W.heap[r]? = some o ∧ o.isCells = false) : Vs w W' most D N n :=
  ⟨h.wt.kept hg hr, row_kept h.box hg hr, row_kept h.nb hg hr, h.big⟩
theorem Vs.step {w W W' : World} {most : Int} {D N n : Nat} (h : Vs w W most D N n) (hb : Below W.heap.size W W') : Vs w W' most D N n :=
  ⟨h.wt.step hb, (hb.block _ (Array.getElem?_eq_some_iff.1 h.box).1).trans h.box, (hb.block _ (Array.getElem?_eq_some_iff.1 h.nb).1).trans h.nb, h.big⟩
theorem Vs.lt {w W : World} {most : Int} {D N n : Nat} (h : Vs w W most D N n) : D < W.heap.size := (Array.getElem?_eq_some_iff.1 h.nb).1
theorem Vs.cells {w W : World} {most : Int} {D N n : Nat} (h : Vs w W most D N n) : W.cell? ⟨w.heap.size, 0, none⟩ = some (.int .u64 most) ∧ W.cell? ⟨D, 0, none⟩ = some (.int .u64 (n : Int)) :=
  ⟨by rw [cell_of_row _ _ _ _ _ _ h.box]; rfl, by rw [cell_of_row _ _ _ _ _ _ h.nb]; rfl⟩
/-- Behind the writer's step. -/
theorem Vs.mid {w W W1 : World} {most : Int} {D N n : Nat} (h : Vs w W most D N n) (k : Keep (w.heap.size + 2) 5 W W1) :
    W1.heap[w.heap.size]? = some (.cells #[.int .u64 most] 31 (0, 0)) ∧ W1.heap[D]? = some (.cells #[.int .u64 (n : Int)] 31 (0, 0)) :=
  ⟨k.others _ _ 31 _ h.box (by decide) (by omega), k.others _ _ 31 _ h.nb (by decide) (by have := h.big; omega)⟩
theorem Vs.go {w W W1 : World} {most : Int} {D N n N' : Nat} (h : Vs w W most D N n) (h1 : Wt W1 (w.heap.size + 3) (w.heap.size + 2) N' (n + 1)) (k : Keep (w.heap.size + 2) 5 W W1) :
    Vs w (W1.setCell ⟨D, 0, none⟩ (.int .u64 ((n : Int) + 1))) most D N' (n + 1) := by
  obtain ⟨m1, m2⟩ := h.mid k
  have hb := h.big
  refine ⟨h1.set m2 (by decide) (by omega) 0 _, (heap_setCell_other W1 ⟨D, 0, none⟩ _ _ (by show _ ≠ D; omega)).trans m1, ?_, hb⟩
  have := heap_setCell_same W1 D 0 _ 31 (.int .u64 ((n : Int) + 1)) m2
  exact this
theorem Vs.stays {w W W1 : World} {most : Int} {B D N n : Nat} (h : Vs w W most D N n) (k : Keep (w.heap.size + 2) 5 W W1) (hB : w.heap.size + 3 ≤ B) (u : Value) : Stays B W (W1.setCell ⟨D, 0, none⟩ u) := by
  intro s e
  obtain ⟨m1, m2⟩ := h.mid k
  have e1 := k.others _ _ 9 _ e (by decide) (by omega)
  have hne : B ≠ D := by
    intro e2
    subst e2
    rw [e1] at m2
    cases m2
  exact (heap_setCell_other W1 ⟨D, 0, none⟩ B u hne).trans e1
theorem vs_new {w W : World} {most : Int} (h2 : W.heap[w.heap.size + 2]? = some (.cells #[.slice none 0 0, .int .u64 0, .int .i64 0] 26 (0, 0))) (hbox : W.heap[w.heap.size]? = some (.cells #[.int .u64 most] 31 (0, 0))) (hbig : w.heap.size + 3 ≤ W.heap.size) :
    Vs w (W.alloc (.cells #[.int .u64 0] 31)) most W.heap.size 0 0 :=
  ⟨⟨by decide, .slice none 0 0, by omega, (Below.heap_alloc _ _ _ (by omega)).trans h2, World.ownsRow_nil _ _ _ _⟩, (Below.heap_alloc _ _ _ (by omega)).trans hbox, heap_alloc_new _ _, hbig⟩
theorem numB_next (pre : List Bool) (x : Bool) : numB pre + 2 ^ pre.length * (x.toNat % 2 ^ manyN 1) = numB (pre ++ [x]) := by
  have h : x.toNat < 2 := by have := Bool.toNat_le x; omega
  rw [numB_snoc, show manyN 1 = 1 from rfl, Nat.pow_one, Nat.mod_eq_of_lt h]
end Go.Proofs.Ytlgnapapofgdfaa
