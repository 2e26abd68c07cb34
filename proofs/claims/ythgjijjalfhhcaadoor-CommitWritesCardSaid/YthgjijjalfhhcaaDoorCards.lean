/-
  DERIVED. GIVEN WITH THE SEED: THE CARDS: each row of YthgjijjalfhhcaaDoorRows.lean that lists a variable, with what it lists TIED to the program's text (the seventh form; the later family's looks); each row that meets fmt, with fmt's text TOLD by the authors' own Lean function (tested against real Go, not proved from fmt's source: count such statements apart). THE CARD IS WHAT COUNTS. Prove the row's statement (the work); the ties are given (YthgjijjalfhhcaaDoorTie.lean); close each card by the builder's one call (the guide's Derived/Test/ToyasCard.lean, 'card_holds'). Laid BY PROGRAM, IN A SANDBOX (cutbox-door.mjs). By AI agents, Wed Nov 11 2026. No macro, syntax, notation, axiom, sorry.
-/
import Derived.Test.YthgjijjalfhhcaaDoorRows
import GoSem.ClaimSeven
namespace Go.Proofs.YthgjijjalfhhcaaDoor
namespace Rows

/-- THE TIED CARD OF 'swinglelaw25.CommitWrites'. -/
def commitWritesCard : Claim7 := { stood := { row := commitWritesRow, standIns := [], harness := (true, "b3ca61d95b6ad410cae97034fc4a4a3810cb62f8f2971e4b3e39f84cf77839d8"), looks := false }, kinds := [], alts := [], laidByText := true, laidKinds := [.data, .pinned], laidTests := true, laidLooks := .later }
def CommitWritesCardSaid : Prop := Claim7.holds Tryd.pinned (.plain (OpenSpec.ofChange commitWritesSpec)) commitWritesCard

/-- THE TIED CARD OF 'swinglelaw25.CommitCuts'. -/
def commitCutsCard : Claim7 := { stood := { row := commitCutsRow, standIns := [], harness := (true, "b3ca61d95b6ad410cae97034fc4a4a3810cb62f8f2971e4b3e39f84cf77839d8"), looks := false }, kinds := [], alts := [], laidByText := true, laidKinds := [.data, .pinned], laidTests := true, laidLooks := .later }
def CommitCutsCardSaid : Prop := Claim7.holds Tryd.pinned (.plain (OpenSpec.ofChange commitCutsSpec)) commitCutsCard

/-- THE SECOND FORM's CARD OF 'swinglelaw25.CommitWrites'. -/
def commitWritesUptoCard : Claim7 := { stood := { row := commitWritesUptoRow, standIns := [], harness := (true, "b3ca61d95b6ad410cae97034fc4a4a3810cb62f8f2971e4b3e39f84cf77839d8"), looks := false }, kinds := [], alts := [], laidByText := true, laidKinds := [.data, .pinned], laidTests := true, laidLooks := .later }
def CommitWritesUptoCardSaid : Prop := Claim7.holds Tryd.pinned (.plain (OpenSpec.upto commitWritesSpec)) commitWritesUptoCard

/-- THE SECOND FORM's CARD OF 'swinglelaw25.CommitCuts'. -/
def commitCutsUptoCard : Claim7 := { stood := { row := commitCutsUptoRow, standIns := [], harness := (true, "b3ca61d95b6ad410cae97034fc4a4a3810cb62f8f2971e4b3e39f84cf77839d8"), looks := false }, kinds := [], alts := [], laidByText := true, laidKinds := [.data, .pinned], laidTests := true, laidLooks := .later }
def CommitCutsUptoCardSaid : Prop := Claim7.holds Tryd.pinned (.plain (OpenSpec.upto commitCutsSpec)) commitCutsUptoCard
end Rows
end Go.Proofs.YthgjijjalfhhcaaDoor
