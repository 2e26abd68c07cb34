/-
  DERIVED. GIVEN WITH THE SEED: THE CARDS: each row of YthgjijjalfhhcabDoorRows.lean that lists a variable, with what it lists TIED to the program's text (the seventh form; the later family's looks); each row that meets fmt, with fmt's text TOLD by the authors' own Lean function (tested against real Go, not proved from fmt's source: count such statements apart). THE CARD IS WHAT COUNTS. Prove the row's statement (the work); the ties are given (YthgjijjalfhhcabDoorTie.lean); close each card by the builder's one call (the guide's Derived/Test/ToyasCard.lean, 'card_holds'). Laid BY PROGRAM, IN A SANDBOX (cutbox-door.mjs). By AI agents, Wed Nov 11 2026. No macro, syntax, notation, axiom, sorry.
-/
import Derived.Test.YthgjijjalfhhcabDoorRows
import GoSem.ClaimSeven
namespace Go.Proofs.YthgjijjalfhhcabDoor
namespace Rows

/-- THE TIED CARD OF 'swinglelaw25.CommitTurns'. -/
def commitTurnsCard : Claim7 := { stood := { row := commitTurnsRow, standIns := [], harness := (true, "f5fa87de5ea37a3c80a83bbc69c900022ed72c9af810eed6cfb58d7452a81a4a"), looks := false }, kinds := [], alts := [], laidByText := true, laidKinds := [.data, .pinned], laidTests := true, laidLooks := .later }
def CommitTurnsCardSaid : Prop := Claim7.holds Tryd.pinned (.plain (OpenSpec.ofChange commitTurnsSpec)) commitTurnsCard

/-- THE TIED CARD OF 'swinglelaw14.NodeRight'. -/
def nodeRightCard : Claim7 := { stood := { row := nodeRightRow, standIns := [], harness := (true, "f5fa87de5ea37a3c80a83bbc69c900022ed72c9af810eed6cfb58d7452a81a4a"), looks := false }, kinds := [], alts := [], laidByText := true, laidKinds := [.data, .data, .data, .data], laidTests := true, laidLooks := .later }
def NodeRightCardSaid : Prop := Claim7.holds Tryd.pinned (.plain (OpenSpec.ofChange nodeRightSpec)) nodeRightCard

/-- THE SECOND FORM's CARD OF 'swinglelaw25.CommitTurns'. -/
def commitTurnsUptoCard : Claim7 := { stood := { row := commitTurnsUptoRow, standIns := [], harness := (true, "f5fa87de5ea37a3c80a83bbc69c900022ed72c9af810eed6cfb58d7452a81a4a"), looks := false }, kinds := [], alts := [], laidByText := true, laidKinds := [.data, .pinned], laidTests := true, laidLooks := .later }
def CommitTurnsUptoCardSaid : Prop := Claim7.holds Tryd.pinned (.plain (OpenSpec.upto commitTurnsSpec)) commitTurnsUptoCard

/-- THE SECOND FORM's CARD OF 'swinglelaw14.NodeRight'. -/
def nodeRightUptoCard : Claim7 := { stood := { row := nodeRightUptoRow, standIns := [], harness := (true, "f5fa87de5ea37a3c80a83bbc69c900022ed72c9af810eed6cfb58d7452a81a4a"), looks := false }, kinds := [], alts := [], laidByText := true, laidKinds := [.data, .data, .data, .data], laidTests := true, laidLooks := .later }
def NodeRightUptoCardSaid : Prop := Claim7.holds Tryd.pinned (.plain (OpenSpec.upto nodeRightSpec)) nodeRightUptoCard
end Rows
end Go.Proofs.YthgjijjalfhhcabDoor
