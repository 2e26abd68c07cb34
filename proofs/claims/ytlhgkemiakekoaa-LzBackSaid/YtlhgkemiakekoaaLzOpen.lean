/- ARGUMENTS OPENED: a row of things of three fields. -/
import Derived.Test.YtlhgkemiakekoaaEnd
import Derived.ChangeSlices
import Derived.Deep.Slices
import Derived.Deep.Fields
namespace Go.Proofs.Ytlhgkemiakekoaa
set_option linter.unusedVariables false
open Go.ChangeShapes Go.WideShapes Go.ChangeAt Go.RowKit Go.Deep

theorem offs (b o i : Nat) : (⟨b, o, none⟩ : Addr).add i = ⟨b, o + i, none⟩ := by unfold Addr.add; split <;> simp_all
theorem list3 {α : Type} {l : List α} (h : l.length = 3) : ∃ a b c, l = [a, b, c] := by
  match l, h with
  | [a, b, c], _ => exact ⟨a, b, c, rfl⟩

/-- A row of things of three fields, each of one cell: nil; or so many cells, three by three, each with its own reading. -/
theorem open_threes {H : Type} {enc : TypeId × Value → H} {P : Program} {w : World} {r : Reach} {b0 base : Nat} {sp : Nat → Bool} {held : Bool} {t e : TypeId} {f0 f1 f2 : Field} {v : Value} {d : DataW H} {p : List MemPlace}
    (ht : P.underlying t = some (.slice e)) (he : P.underlying e = some (.struct #[f0, f1, f2])) (hone : oneCellFields P #[f0, f1, f2] = true) (hC : P.cellsOf e = 3)
    (hv : Value.okWide P w r b0 t v) (h : DataW.Trod enc P w base sp held t v d p) :
    ∃ (A : Option Addr) (len cap b off : Nat), v = .slice A len cap ∧ len ≤ cap ∧ cap ≤ maxLen ∧ (0 < len → A = some ⟨b, off, none⟩ ∧ b < w.heap.size) ∧
      ∀ i, i < len → ∃ (x0 x1 x2 : Value) (y0 y1 y2 : DataW H × List MemPlace) (m : Nat),
        (w.cell? ⟨b, off + i * 3, none⟩ = some x0 ∧ w.cell? ⟨b, off + i * 3 + 1, none⟩ = some x1 ∧ w.cell? ⟨b, off + i * 3 + 2, none⟩ = some x2) ∧
        DataW.trod enc P w base sp held m f0.type [x0] = some y0 ∧ DataW.trod enc P w base sp held m f1.type [x1] = some y1 ∧ DataW.trod enc P w base sp held m f2.type [x2] = some y2 := by
  obtain ⟨A, len, cap, rfl⟩ := okWide_slice ht hv
  obtain ⟨fuel, hf⟩ := h
  rcases open_slice ht hf with ⟨hcs, _⟩ | ⟨a, l, c, m, n, D, Pl, hcs, _, hl, hm, hmm, _, hx⟩
  · simp [Value.cells] at hcs
    obtain ⟨rfl, rfl, rfl⟩ := hcs
    exact ⟨none, 0, 0, 0, 0, rfl, Nat.le_refl _, Nat.zero_le _, fun h => absurd h (by omega), fun i h => absurd h (by omega)⟩
  · simp [Value.cells] at hcs
    obtain ⟨rfl, rfl, rfl⟩ := hcs
    rw [hC] at hx
    have hml : len ≤ m := by rw [hmm]; split <;> omega
    have key : ∀ i, i < len → ∃ (x0 x1 x2 : Value) (y0 y1 y2 : DataW H × List MemPlace) (k : Nat),
        (w.cell? (a.add (i * 3)) = some x0 ∧ w.cell? (a.add (i * 3 + 1)) = some x1 ∧ w.cell? (a.add (i * 3 + 2)) = some x2) ∧
        DataW.trod enc P w base sp held k f0.type [x0] = some y0 ∧ DataW.trod enc P w base sp held k f1.type [x1] = some y1 ∧ DataW.trod enc P w base sp held k f2.type [x2] = some y2 := by
      intro i hi
      obtain ⟨cs', h1, h2⟩ := hx i (by omega)
      obtain ⟨_, hlen, hat⟩ := World.cells?_some h1
      obtain ⟨xs, k, _, _, _, hxl, hg⟩ := DataW.trod_struct he h2
      obtain ⟨z0, z1, z2, rfl⟩ := list3 hlen
      obtain ⟨y0, y1, y2, rfl⟩ := list3 (show xs.length = 3 from hxl)
      obtain ⟨o0, k0⟩ := hone_of hone 0 f0 rfl
      obtain ⟨o1, k1⟩ := hone_of hone 1 f1 rfl
      obtain ⟨o2, k2⟩ := hone_of hone 2 f2 rfl
      have g0 := hg 0 f0 rfl
      have g1 := hg 1 f1 rfl
      have g2 := hg 2 f2 rfl
      rw [o0, k0] at g0
      rw [o1, k1] at g1
      rw [o2, k2] at g2
      have a0 := hat 0 (by omega)
      have a1 := hat 1 (by omega)
      have a2 := hat 2 (by omega)
      rw [add_add] at a0 a1 a2
      exact ⟨z0, z1, z2, y0, y1, y2, k, ⟨a0, a1, a2⟩, g0, g1, g2⟩
    by_cases hz : len = 0
    · subst hz
      exact ⟨some a, 0, cap, 0, 0, rfl, hl, hm, fun h => absurd h (by omega), fun i h => absurd h (by omega)⟩
    · obtain ⟨x0, x1, x2, y0, y1, y2, k, ⟨c0, _⟩, _⟩ := key 0 (by omega)
      have hspot : a.spot = none := by
        have := World.cell?_spot c0
        simpa [Addr.add] using this
      obtain ⟨b, off, spot⟩ := a
      have hs2 : spot = none := hspot
      subst hs2
      refine ⟨some ⟨b, off, none⟩, len, cap, b, off, rfl, hl, hm, fun _ => ⟨rfl, ?_⟩, ?_⟩
      · have := World.block_lt_of_cell? _ _ c0
        simpa [offs] using this
      · intro i hi
        obtain ⟨x0, x1, x2, y0, y1, y2, k, ⟨c0, c1, c2⟩, t0, t1, t2⟩ := key i hi
        rw [offs] at c0 c1 c2
        rw [← Nat.add_assoc] at c1 c2
        exact ⟨x0, x1, x2, y0, y1, y2, k, ⟨c0, c1, c2⟩, t0, t1, t2⟩
end Go.Proofs.Ytlhgkemiakekoaa
