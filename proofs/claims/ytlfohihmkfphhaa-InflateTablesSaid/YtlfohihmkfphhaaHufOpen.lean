/- ARGUMENTS OPENED: a row of numbers. -/
import Derived.Test.YtlfohihmkfphhaaHufQ
import Derived.Test.YtlfohihmkfphhaaEnd
import Derived.ChangeSlices
import Derived.Deep.Slices
namespace Go.Proofs.Ytlfohihmkfphhaa
set_option linter.unusedVariables false
open Go.ChangeShapes Go.WideShapes Go.ChangeAt Go.RowKit Go.Deep
namespace Huff

theorem offs (b o i : Nat) : (⟨b, o, none⟩ : Addr).add i = ⟨b, o + i, none⟩ := by unfold Addr.add; split <;> simp_all
theorem und22 : Try.prog.underlying 22 = some (.slice 3) := by kernel_rfl
theorem c3 : Try.prog.cellsOf 3 = 1 := by kernel_rfl

set_option maxRecDepth 100000 in
/-- An argument that is a slice of numbers. -/
theorem open_nums {H : Type} {enc : TypeId × Value → H} {w : World} {base b0 : Nat} {sp : Nat → Bool} {held : Bool} {r : Reach} {v : Value} {d : DataW H} {p : List MemPlace}
    (hv : Value.okWide Try.prog w r b0 22 v) (h : DataW.Trod enc Try.prog w base sp held 22 v d p) :
    ∃ (A : Option Addr) (b off len cap : Nat) (x : Nat → Int), v = .slice A len cap ∧ (0 < len → A = some ⟨b, off, none⟩) ∧ Ints w b off len x ∧ len ≤ 9223372036854775807 ∧
      ∀ i, i < len → -9223372036854775808 ≤ x i ∧ x i ≤ 9223372036854775807 := by
  obtain ⟨A, len, cap, rfl⟩ := okWide_slice und22 hv
  obtain ⟨fuel, hf⟩ := h
  rcases open_ints und22 und3 c3 hf with ⟨hcs, _⟩ | ⟨a, l, c, zs, hcs, _, hl, hm, hz, _, hc, hw⟩
  · simp [Value.cells] at hcs
    obtain ⟨rfl, rfl, rfl⟩ := hcs
    exact ⟨none, 0, 0, 0, 0, fun _ => 0, rfl, fun h => absurd h (by omega), ⟨fun h => absurd h (by omega), fun i h => absurd h (by omega)⟩, by omega, fun i h => absurd h (by omega)⟩
  · simp [Value.cells] at hcs
    obtain ⟨rfl, rfl, rfl⟩ := hcs
    have hlz : len ≤ zs.length := by rw [hz]; split <;> omega
    unfold maxLen at hm
    by_cases h0 : len = 0
    · subst h0
      exact ⟨some a, 0, 0, 0, cap, fun _ => 0, rfl, fun h => absurd h (by omega), ⟨fun h => absurd h (by omega), fun i h => absurd h (by omega)⟩, by omega, fun i h => absurd h (by omega)⟩
    · have g0 := hc 0 (by omega)
      have hspot : a.spot = none := by
        have := World.cell?_spot g0
        simpa [Addr.add] using this
      obtain ⟨b, off, spot⟩ := a
      have hs2 : spot = none := hspot
      subst hs2
      refine ⟨some ⟨b, off, none⟩, b, off, len, cap, fun i => zs.getD i 0, rfl, fun _ => rfl, ⟨fun _ => ?_, fun i hi => ?_⟩, by omega, fun i hi => ?_⟩
      · have := World.block_lt_of_cell? _ _ g0
        simpa [offs] using this
      · have g := hc i (by omega)
        rw [offs] at g
        exact g
      · have hmem : zs.getD i 0 ∈ zs := by
          have hi2 : i < zs.length := by omega
          simp [List.getD, hi2]
        exact i64_bd (hw _ hmem)
end Huff
end Go.Proofs.Ytlfohihmkfphhaa
