/- WALKS over the document's own distances. -/
import Derived.Test.YtlfohihmkfphhaaSymR
namespace Go.Proofs.Ytlfohihmkfphhaa
set_option linter.unusedVariables false
open Go.RowKit
open Go.Proofs.Sym
namespace Sg

def tabB : List Nat := [1, 2, 3, 4, 5, 7, 9, 13, 17, 25, 33, 49, 65, 97, 129, 193, 257, 385, 513, 769, 1025, 1537, 2049, 3073, 4097, 6145, 8193, 12289, 16385, 24577, 32769]
def atB (i : Nat) : Nat := tabB.getD i 0
theorem atB_beg : ∀ i, i < 31 → atB i = beg 1 2 i := by decide +kernel
theorem atB_le : ∀ i, i < 31 → atB i ≤ 32769 := by decide +kernel
theorem litB (i : Nat) (h : i < 31) : (#[.int .i64 1, .int .i64 2, .int .i64 3, .int .i64 4, .int .i64 5, .int .i64 7, .int .i64 9, .int .i64 13, .int .i64 17, .int .i64 25, .int .i64 33, .int .i64 49, .int .i64 65, .int .i64 97, .int .i64 129, .int .i64 193, .int .i64 257, .int .i64 385, .int .i64 513, .int .i64 769, .int .i64 1025, .int .i64 1537, .int .i64 2049, .int .i64 3073, .int .i64 4097, .int .i64 6145, .int .i64 8193, .int .i64 12289, .int .i64 16385, .int .i64 24577, .int .i64 32769] : Array Value)[i]? = some (.int .i64 (atB i : Int)) := cells_at tabB i h
theorem back_tab (n : Int) (p : Nat) (hp : p < 30) (h1 : (atB p : Int) ≤ n) (h2 : n < (atB (p + 1) : Int)) : IsBack n (p : Int) (wide 2 p : Int) (n - (atB p : Int)) true := by
  rw [atB_beg p (by omega)] at h1 ⊢
  rw [atB_beg (p + 1) (by omega)] at h2
  exact .inl ⟨p, ⟨hp, h1, h2⟩, rfl, rfl, rfl, rfl⟩
theorem back_val {n c k m c' k' m' : Int} {ok ok' : Bool} (h : IsBack n c k m ok) (h' : IsBack n c' k' m' ok') : signE c' k' m' ok' = signE c k m ok := by
  obtain ⟨rfl, rfl, rfl, rfl⟩ := back_fn h h'
  rfl

end Sg
end Go.Proofs.Ytlfohihmkfphhaa
