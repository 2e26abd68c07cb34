/- WALKS: codes and kinds of any lengths, by the program and by the document; the document's example. -/
import Derived.Test.YtlfohihmkfphhaaHufR
namespace Go.Proofs.Ytlfohihmkfphhaa
set_option linter.unusedVariables false
open Go.RowKit
open Go.Proofs.Huf
namespace Huff

set_option maxRecDepth 100000 in
set_option maxHeartbeats 1000000 in
theorem refCodes_over (A : Option Addr) (b off len cap : Nat) (x : Nat → Int) (w : World) (hA : 0 < len → A = some ⟨b, off, none⟩) (hx : Ints w b off len x) (hf : Fine len x) (hk : kindOf (wT (natOf x) len) = 3) :
    Calls Try.prog 53 #[.slice A len cap] w fun e w' => e = .returned (.slice none 0 0) ∧ Below w.heap.size w w' := by
  have HX := hid hx
  have HA := hid hA
  have HF := hid hf
  have hk3 : (((kindOf (wT (natOf x) len) : Nat) : Int) == 3) = true := by simp; omega
  clear hx hA hf hk
  go_enter Try.func53, Try.ntmps53
  go_wp2_with fail
  refine (refKind_yes A b off len cap x _ HA.out HX.out HF.out).mono ?_
  rintro e w1 ⟨rfl, rfl⟩
  generalize kindOf (wT (natOf x) len) = kd at hk3 ⊢
  go_wp2_with fail
  go_ret
  exact ⟨rfl, Below.refl _ _⟩

set_option maxRecDepth 100000 in
set_option maxHeartbeats 1000000 in
theorem refCodes_bad (A : Option Addr) (b off len cap : Nat) (x : Nat → Int) (w : World) (hA : 0 < len → A = some ⟨b, off, none⟩) (hx : Ints w b off len x) (hm : len ≤ 9223372036854775807) (hf : ¬ Fine len x) :
    Calls Try.prog 53 #[.slice A len cap] w fun e w' => e = .returned (.slice none 0 0) ∧ Below w.heap.size w w' := by
  have HX := hid hx
  have HA := hid hA
  have HF := hid hf
  clear hx hA hf
  go_enter Try.func53, Try.ntmps53
  go_wp2_with fail
  refine (refKind_no A b off len cap x _ HA.out HX.out hm HF.out).mono ?_
  rintro e w1 ⟨rfl, rfl⟩
  go_wp2_with fail
  go_ret
  exact ⟨rfl, Below.refl _ _⟩

/-- Codes of the first M symbols, in new memory; where there are none, nothing is said of where. -/
def CodesP (g : Nat → Nat) (M : Nat) (w : World) (e : Ending) (w' : World) : Prop :=
  ∃ Q, e = .returned (.slice Q M M) ∧ (0 < M → ∃ C, w.heap.size ≤ C ∧ Q = some ⟨C, 0, none⟩ ∧ w'.heap[C]? = some (.cells (cdV g M M) 47 (0, 0))) ∧ Below w.heap.size w w'
theorem codesP_of {g : Nat → Nat} {N : Nat} {w : World} {e : Ending} {w' : World} (h : IsCodes g N w e w') : CodesP g N w e w' := by
  obtain ⟨C, h1, h2, h3, h4⟩ := h
  exact ⟨_, h2, fun _ => ⟨C, h1, rfl, h3⟩, h4⟩
end Huff
end Go.Proofs.Ytlfohihmkfphhaa
