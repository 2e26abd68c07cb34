/- ARGUMENTS OPENED: rows of numbers. -/
import Derived.Test.YtdjlkacmaflhfaaRunI
import Derived.Test.YtdjlkacmaflhfaaEnd
import Derived.ChangeSlices
import Derived.Deep.Slices
namespace Go.Proofs.Ytdjlkacmaflhfaa
set_option linter.unusedVariables false
open Go.ChangeShapes Go.WideShapes Go.ChangeAt Go.RowKit Go.Deep
namespace Run
theorem offs2 (b o i : Nat) : (⟨b, o, none⟩ : Addr).add i = ⟨b, o + i, none⟩ := by unfold Addr.add; split <;> simp_all
theorem und56 : Try.prog.underlying 56 = some (.slice 35) := by kernel_rfl
theorem und35 : Try.prog.underlying 35 = some (.int .u64) := by kernel_rfl
theorem c35 : Try.prog.cellsOf 35 = 1 := by kernel_rfl
theorem und3 : Try.prog.underlying 3 = some (.int .i64) := by kernel_rfl
theorem c3 : Try.prog.cellsOf 3 = 1 := by kernel_rfl

set_option maxRecDepth 100000 in
theorem open_uints {H : Type} {enc : TypeId × Value → H} {w : World} {base b0 : Nat} {sp : Nat → Bool} {held : Bool} {r : Reach} {v : Value} {d : DataW H} {p : List MemPlace}
    (hv : Value.okWide Try.prog w r b0 56 v) (h : DataW.Trod enc Try.prog w base sp held 56 v d p) :
    ∃ (A : Option Addr) (b off len cap : Nat) (m : Nat → Nat), v = .slice A len cap ∧ Uints w A b off len m ∧ len ≤ 9223372036854775807 := by
  obtain ⟨A, len, cap, rfl⟩ := okWide_slice und56 hv
  obtain ⟨fuel, hf⟩ := h
  rcases open_ints und56 und35 c35 hf with ⟨hcs, _⟩ | ⟨a, l, c, zs, hcs, _, hl, hm, hz, _, hc, hw⟩
  · simp [Value.cells] at hcs
    obtain ⟨rfl, rfl, rfl⟩ := hcs
    exact ⟨none, 0, 0, 0, 0, fun _ => 0, rfl, ⟨fun h => absurd h (by omega), fun h => absurd h (by omega), fun i h => absurd h (by omega)⟩, by omega⟩
  · simp [Value.cells] at hcs
    obtain ⟨rfl, rfl, rfl⟩ := hcs
    have hlz : len ≤ zs.length := by rw [hz]; split <;> omega
    unfold maxLen at hm
    by_cases h0 : len = 0
    · subst h0
      exact ⟨some a, 0, 0, 0, cap, fun _ => 0, rfl, ⟨fun h => absurd h (by omega), fun h => absurd h (by omega), fun i h => absurd h (by omega)⟩, by omega⟩
    · have g0 := hc 0 (by omega)
      have hspot : a.spot = none := by
        have := World.cell?_spot g0
        simpa [Addr.add] using this
      obtain ⟨b, off, spot⟩ := a
      have hs2 : spot = none := hspot
      subst hs2
      refine ⟨some ⟨b, off, none⟩, b, off, len, cap, fun i => (zs.getD i 0).toNat, rfl, ⟨fun _ => rfl, fun _ => ?_, fun i hi => ?_⟩, by omega⟩
      · have := World.block_lt_of_cell? _ _ g0
        simpa [offs2] using this
      · have g := hc i (by omega)
        rw [offs2] at g
        have hmem : zs.getD i 0 ∈ zs := by
          have hi2 : i < zs.length := by omega
          simp [List.getD, hi2]
        have hb := u64_bd (hw _ hmem)
        rw [Int.toNat_of_nonneg hb.1]
        exact g

set_option maxRecDepth 100000 in
theorem open_nums {H : Type} {enc : TypeId × Value → H} {w : World} {base b0 : Nat} {sp : Nat → Bool} {held : Bool} {r : Reach} {v : Value} {d : DataW H} {p : List MemPlace}
    (hv : Value.okWide Try.prog w r b0 40 v) (h : DataW.Trod enc Try.prog w base sp held 40 v d p) :
    ∃ (A : Option Addr) (b off len cap : Nat) (x : Nat → Int), v = .slice A len cap ∧ Ints w A b off len x ∧ len ≤ 9223372036854775807 := by
  obtain ⟨A, len, cap, rfl⟩ := okWide_slice und40 hv
  obtain ⟨fuel, hf⟩ := h
  rcases open_ints und40 und3 c3 hf with ⟨hcs, _⟩ | ⟨a, l, c, zs, hcs, _, hl, hm, hz, _, hc, hw⟩
  · simp [Value.cells] at hcs
    obtain ⟨rfl, rfl, rfl⟩ := hcs
    exact ⟨none, 0, 0, 0, 0, fun _ => 0, rfl, ⟨fun h => absurd h (by omega), fun h => absurd h (by omega), fun i h => absurd h (by omega)⟩, by omega⟩
  · simp [Value.cells] at hcs
    obtain ⟨rfl, rfl, rfl⟩ := hcs
    have hlz : len ≤ zs.length := by rw [hz]; split <;> omega
    unfold maxLen at hm
    by_cases h0 : len = 0
    · subst h0
      exact ⟨some a, 0, 0, 0, cap, fun _ => 0, rfl, ⟨fun h => absurd h (by omega), fun h => absurd h (by omega), fun i h => absurd h (by omega)⟩, by omega⟩
    · have g0 := hc 0 (by omega)
      have hspot : a.spot = none := by
        have := World.cell?_spot g0
        simpa [Addr.add] using this
      obtain ⟨b, off, spot⟩ := a
      have hs2 : spot = none := hspot
      subst hs2
      refine ⟨some ⟨b, off, none⟩, b, off, len, cap, fun i => zs.getD i 0, rfl, ⟨fun _ => rfl, fun _ => ?_, fun i hi => ?_⟩, by omega⟩
      · have := World.block_lt_of_cell? _ _ g0
        simpa [offs2] using this
      · have g := hc i (by omega)
        rw [offs2] at g
        exact g
end Run
end Go.Proofs.Ytdjlkacmaflhfaa
