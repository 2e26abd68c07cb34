/-
  DERIVED. GIVEN WITH THE SEED: THE CARDS: each row of YtbcbimlcjcaegaaDoorRows.lean that lists a variable, with what it lists TIED to the program's text (the seventh form; the later family's looks); each row that meets fmt, with fmt's text TOLD by the authors' own Lean function (tested against real Go, not proved from fmt's source: count such statements apart). THE CARD IS WHAT COUNTS. Prove the row's statement (the work); the ties are given (YtbcbimlcjcaegaaDoorTie.lean); close each card by the builder's one call (the guide's Derived/Test/ToyasCard.lean, 'card_holds'). Laid BY PROGRAM, IN A SANDBOX (cutbox-door.mjs). By AI agents, Wed Nov 11 2026. No macro, syntax, notation, axiom, sorry.
-/
import Derived.Test.YtbcbimlcjcaegaaDoorRows
import GoSem.ClaimSeven
namespace Go.Proofs.YtbcbimlcjcaegaaDoor
namespace Rows

/-- THE TIED CARD OF 'swinglelaw12.DosParts'. -/
def dosPartsCard : Claim7 := { stood := { row := dosPartsRow, standIns := [], harness := (true, "182db3c6209ecef109a8c9e2a5d3114666863a050b45944d40beb2dfadfeec83"), looks := true }, kinds := [], alts := [], laidByText := true, laidKinds := [.data, .data, .data, .data], laidTests := true, laidLooks := .later }
def DosPartsCardSaid : Prop := Claim7.holds Tryd.pinned (.plain (OpenSpec.ofChange dosPartsSpec)) dosPartsCard

/-- THE TIED CARD OF 'swinglelaw12.DosSeconds'. -/
def dosSecondsCard : Claim7 := { stood := { row := dosSecondsRow, standIns := [], harness := (true, "182db3c6209ecef109a8c9e2a5d3114666863a050b45944d40beb2dfadfeec83"), looks := true }, kinds := [], alts := [], laidByText := true, laidKinds := [.data, .data, .data, .data], laidTests := true, laidLooks := .later }
def DosSecondsCardSaid : Prop := Claim7.holds Tryd.pinned (.plain (OpenSpec.ofChange dosSecondsSpec)) dosSecondsCard

/-- THE TIED CARD OF 'swinglelaw12.DosTexts'. -/
def dosTextsCard : Claim7 := { stood := { row := dosTextsRow, standIns := [], harness := (true, "182db3c6209ecef109a8c9e2a5d3114666863a050b45944d40beb2dfadfeec83"), looks := true }, kinds := [], alts := [], laidByText := true, laidKinds := [.data, .data, .data, .sentinel, .sentinel, .data], laidTests := true, laidLooks := .later }
def DosTextsCardSaid : Prop := Claim7.holds Tryd.pinned (.plain (OpenSpec.ofChange dosTextsSpec)) dosTextsCard

/-- THE TIED CARD OF 'swinglelaw12.DosOrders'. -/
def dosOrdersCard : Claim7 := { stood := { row := dosOrdersRow, standIns := [], harness := (true, "182db3c6209ecef109a8c9e2a5d3114666863a050b45944d40beb2dfadfeec83"), looks := true }, kinds := [], alts := [], laidByText := true, laidKinds := [.data, .data, .data, .data], laidTests := true, laidLooks := .later }
def DosOrdersCardSaid : Prop := Claim7.holds Tryd.pinned (.plain (OpenSpec.ofChange dosOrdersSpec)) dosOrdersCard

/-- THE TIED CARD OF 'swinglelaw13.NameParts'. -/
def namePartsCard : Claim7 := { stood := { row := namePartsRow, standIns := [], harness := (true, "182db3c6209ecef109a8c9e2a5d3114666863a050b45944d40beb2dfadfeec83"), looks := true }, kinds := [], alts := [], laidByText := true, laidKinds := [.data, .pinned], laidTests := true, laidLooks := .later }
def NamePartsCardSaid : Prop := Claim7.holds Tryd.pinned (.plain (OpenSpec.ofChange namePartsSpec)) namePartsCard

/-- THE TIED CARD OF 'swinglelaw13.NameOrders'. -/
def nameOrdersCard : Claim7 := { stood := { row := nameOrdersRow, standIns := [], harness := (true, "182db3c6209ecef109a8c9e2a5d3114666863a050b45944d40beb2dfadfeec83"), looks := true }, kinds := [], alts := [], laidByText := true, laidKinds := [.data, .pinned], laidTests := true, laidLooks := .later }
def NameOrdersCardSaid : Prop := Claim7.holds Tryd.pinned (.plain (OpenSpec.ofChange nameOrdersSpec)) nameOrdersCard

/-- THE TIED CARD OF 'swinglelaw13.NameCleans'. -/
def nameCleansCard : Claim7 := { stood := { row := nameCleansRow, standIns := [], harness := (true, "182db3c6209ecef109a8c9e2a5d3114666863a050b45944d40beb2dfadfeec83"), looks := true }, kinds := [], alts := [], laidByText := true, laidKinds := [.data, .pinned], laidTests := true, laidLooks := .later }
def NameCleansCardSaid : Prop := Claim7.holds Tryd.pinned (.plain (OpenSpec.ofChange nameCleansSpec)) nameCleansCard

/-- THE TIED CARD OF 'swinglelaw13.NameNear'. -/
def nameNearCard : Claim7 := { stood := { row := nameNearRow, standIns := [], harness := (true, "182db3c6209ecef109a8c9e2a5d3114666863a050b45944d40beb2dfadfeec83"), looks := true }, kinds := [], alts := [], laidByText := true, laidKinds := [.data, .pinned], laidTests := true, laidLooks := .later }
def NameNearCardSaid : Prop := Claim7.holds Tryd.pinned (.plain (OpenSpec.ofChange nameNearSpec)) nameNearCard

/-- THE SECOND FORM's CARD OF 'swinglelaw12.DosParts'. -/
def dosPartsUptoCard : Claim7 := { stood := { row := dosPartsUptoRow, standIns := [], harness := (true, "182db3c6209ecef109a8c9e2a5d3114666863a050b45944d40beb2dfadfeec83"), looks := true }, kinds := [], alts := [], laidByText := true, laidKinds := [.data, .data, .data, .data], laidTests := true, laidLooks := .later }
def DosPartsUptoCardSaid : Prop := Claim7.holds Tryd.pinned (.plain (OpenSpec.upto dosPartsSpec)) dosPartsUptoCard

/-- THE SECOND FORM's CARD OF 'swinglelaw12.DosSeconds'. -/
def dosSecondsUptoCard : Claim7 := { stood := { row := dosSecondsUptoRow, standIns := [], harness := (true, "182db3c6209ecef109a8c9e2a5d3114666863a050b45944d40beb2dfadfeec83"), looks := true }, kinds := [], alts := [], laidByText := true, laidKinds := [.data, .data, .data, .data], laidTests := true, laidLooks := .later }
def DosSecondsUptoCardSaid : Prop := Claim7.holds Tryd.pinned (.plain (OpenSpec.upto dosSecondsSpec)) dosSecondsUptoCard

/-- THE SECOND FORM's CARD OF 'swinglelaw12.DosTexts'. -/
def dosTextsUptoCard : Claim7 := { stood := { row := dosTextsUptoRow, standIns := [], harness := (true, "182db3c6209ecef109a8c9e2a5d3114666863a050b45944d40beb2dfadfeec83"), looks := true }, kinds := [], alts := [], laidByText := true, laidKinds := [.data, .data, .data, .sentinel, .sentinel, .data], laidTests := true, laidLooks := .later }
def DosTextsUptoCardSaid : Prop := Claim7.holds Tryd.pinned (.plain (OpenSpec.upto dosTextsSpec)) dosTextsUptoCard

/-- THE SECOND FORM's CARD OF 'swinglelaw12.DosOrders'. -/
def dosOrdersUptoCard : Claim7 := { stood := { row := dosOrdersUptoRow, standIns := [], harness := (true, "182db3c6209ecef109a8c9e2a5d3114666863a050b45944d40beb2dfadfeec83"), looks := true }, kinds := [], alts := [], laidByText := true, laidKinds := [.data, .data, .data, .data], laidTests := true, laidLooks := .later }
def DosOrdersUptoCardSaid : Prop := Claim7.holds Tryd.pinned (.plain (OpenSpec.upto dosOrdersSpec)) dosOrdersUptoCard

/-- THE SECOND FORM's CARD OF 'swinglelaw13.NameParts'. -/
def namePartsUptoCard : Claim7 := { stood := { row := namePartsUptoRow, standIns := [], harness := (true, "182db3c6209ecef109a8c9e2a5d3114666863a050b45944d40beb2dfadfeec83"), looks := true }, kinds := [], alts := [], laidByText := true, laidKinds := [.data, .pinned], laidTests := true, laidLooks := .later }
def NamePartsUptoCardSaid : Prop := Claim7.holds Tryd.pinned (.plain (OpenSpec.upto namePartsSpec)) namePartsUptoCard

/-- THE SECOND FORM's CARD OF 'swinglelaw13.NameOrders'. -/
def nameOrdersUptoCard : Claim7 := { stood := { row := nameOrdersUptoRow, standIns := [], harness := (true, "182db3c6209ecef109a8c9e2a5d3114666863a050b45944d40beb2dfadfeec83"), looks := true }, kinds := [], alts := [], laidByText := true, laidKinds := [.data, .pinned], laidTests := true, laidLooks := .later }
def NameOrdersUptoCardSaid : Prop := Claim7.holds Tryd.pinned (.plain (OpenSpec.upto nameOrdersSpec)) nameOrdersUptoCard

/-- THE SECOND FORM's CARD OF 'swinglelaw13.NameCleans'. -/
def nameCleansUptoCard : Claim7 := { stood := { row := nameCleansUptoRow, standIns := [], harness := (true, "182db3c6209ecef109a8c9e2a5d3114666863a050b45944d40beb2dfadfeec83"), looks := true }, kinds := [], alts := [], laidByText := true, laidKinds := [.data, .pinned], laidTests := true, laidLooks := .later }
def NameCleansUptoCardSaid : Prop := Claim7.holds Tryd.pinned (.plain (OpenSpec.upto nameCleansSpec)) nameCleansUptoCard

/-- THE SECOND FORM's CARD OF 'swinglelaw13.NameNear'. -/
def nameNearUptoCard : Claim7 := { stood := { row := nameNearUptoRow, standIns := [], harness := (true, "182db3c6209ecef109a8c9e2a5d3114666863a050b45944d40beb2dfadfeec83"), looks := true }, kinds := [], alts := [], laidByText := true, laidKinds := [.data, .pinned], laidTests := true, laidLooks := .later }
def NameNearUptoCardSaid : Prop := Claim7.holds Tryd.pinned (.plain (OpenSpec.upto nameNearSpec)) nameNearUptoCard
end Rows
end Go.Proofs.YtbcbimlcjcaegaaDoor
