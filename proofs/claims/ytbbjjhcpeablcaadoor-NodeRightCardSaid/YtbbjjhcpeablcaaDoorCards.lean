/-
  DERIVED. GIVEN WITH THE SEED: THE CARDS: each row of YtbbjjhcpeablcaaDoorRows.lean that lists a variable, with what it lists TIED to the program's text (the seventh form; the later family's looks); each row that meets fmt, with fmt's text TOLD by the authors' own Lean function (tested against real Go, not proved from fmt's source: count such statements apart). THE CARD IS WHAT COUNTS. Prove the row's statement (the work); the ties are given (YtbbjjhcpeablcaaDoorTie.lean); close each card by the builder's one call (the guide's Derived/Test/ToyasCard.lean, 'card_holds'). Laid BY PROGRAM, IN A SANDBOX (cutbox-door.mjs). By AI agents, Wed Nov 11 2026. No macro, syntax, notation, axiom, sorry.
-/
import Derived.Test.YtbbjjhcpeablcaaDoorRows
import GoSem.ClaimSeven
namespace Go.Proofs.YtbbjjhcpeablcaaDoor
namespace Rows

/-- THE TIED CARD OF 'swinglelaw14.NodeRight'. -/
def nodeRightCard : Claim7 := { stood := { row := nodeRightRow, standIns := [], harness := (true, "decf1ee1a6401fdf19c6e5f0b890b1d5d122befb6c68da6d95f9ac003c047556"), looks := false }, kinds := [], alts := [], laidByText := true, laidKinds := [.data, .data, .data, .data], laidTests := true, laidLooks := .later }
def NodeRightCardSaid : Prop := Claim7.holds Tryd.pinned (.plain (OpenSpec.ofChange nodeRightSpec)) nodeRightCard

/-- THE SECOND FORM's CARD OF 'swinglelaw14.NodeRight'. -/
def nodeRightUptoCard : Claim7 := { stood := { row := nodeRightUptoRow, standIns := [], harness := (true, "decf1ee1a6401fdf19c6e5f0b890b1d5d122befb6c68da6d95f9ac003c047556"), looks := false }, kinds := [], alts := [], laidByText := true, laidKinds := [.data, .data, .data, .data], laidTests := true, laidLooks := .later }
def NodeRightUptoCardSaid : Prop := Claim7.holds Tryd.pinned (.plain (OpenSpec.upto nodeRightSpec)) nodeRightUptoCard
end Rows
end Go.Proofs.YtbbjjhcpeablcaaDoor
