/-
  No cell of these rows narrows 'for every input' (looked for: loops, veiled, ifaces, maps, wideKeys, modest, calm, conditions, laid).
  DERIVED. THE GIVEN ROWS OF THIS SEAT. 10 by the template 'for every input the law returns true; each argument reads behind the call as it read before'; 0 by the template 'total and deterministic' (their statements: YthgjijjalfhhcaaTotals.lean).
  GIVEN WITH THE SEED: the statements are not yours to turn. If you find one false, say at which input.
  Laid BY PROGRAM, IN A SANDBOX (cutbox-rows.mjs): the forced cells as the released guide's own fill.sh prints them over the translation 3952d2fcd17f54e5… (all of the seat's roots in one cut). By AI agents, Wed Nov 11 2026. No macro, syntax, notation, axiom, sorry.
-/
import Derived.Test.YthgjijjalfhhcaaChecked
import GoSem.Claim
import GoSem.ClaimJoined
import GoSem.ClaimMapViews
import Derived.JoinedTies
import Derived.KernelRfl
namespace Go.Proofs.Ythgjijjalfhhcaa
/- THE CELL 'sum', in the pinned program and in every row, IS THE sha256 OF THE DUMP (.gsa) THAT YthgjijjalfhhcaaProg.lean LOADS. Nothing in Lean hashes anything: it is a label: what it is worth is what the hold of that sum in a sandbox is worth. -/
noncomputable def Try.pinned : Pinned := { name := "ythgjijjalfhhcaa", sum := "3952d2fcd17f54e5cec43ed8a0b5fedec685fd9489d7e97c52e5eb9e51082c02", checked := Try.checked }
namespace Rows
def none {H : Type} : Left H := { results := [], args := [] }

/-- 'swinglelaw04.HuffCodes': WHATEVER THE INPUT: true; the input reads as it did. -/
def huffCodesSpec : ChangeSpec := { name := "huffCodes", fn := fun _ => fun
  | [d1, d2, d3] => { results := [.lit (.bool true)], args := [d1, d2, d3] }
  | _ => none }
def huffCodesRow : OpenClaim := { program := "ythgjijjalfhhcaa", sum := "3952d2fcd17f54e5cec43ed8a0b5fedec685fd9489d7e97c52e5eb9e51082c02", func := "swingle/swinglelaw04.HuffCodes", spec := "huffCodes", apart := false }
def HuffCodesSaid : Prop := huffCodesRow.holds Try.pinned (OpenSpec.ofChange huffCodesSpec)

/-- ITS FALSE NEIGHBOUR: 'it returns false'. Refute it at one input. -/
def huffCodesWrong : ChangeSpec := { name := "huffCodes", fn := fun _ => fun
  | [d1, d2, d3] => { results := [.lit (.bool false)], args := [d1, d2, d3] }
  | _ => none }
def HuffCodesWrongFalsely : Prop := huffCodesRow.holds Try.pinned (OpenSpec.ofChange huffCodesWrong)

/-- 'swinglelaw04.HuffReads': WHATEVER THE INPUT: true; the input reads as it did. -/
def huffReadsSpec : ChangeSpec := { name := "huffReads", fn := fun _ => fun
  | [d1, d2] => { results := [.lit (.bool true)], args := [d1, d2] }
  | _ => none }
def huffReadsRow : OpenClaim := { program := "ythgjijjalfhhcaa", sum := "3952d2fcd17f54e5cec43ed8a0b5fedec685fd9489d7e97c52e5eb9e51082c02", func := "swingle/swinglelaw04.HuffReads", spec := "huffReads", apart := false }
def HuffReadsSaid : Prop := huffReadsRow.holds Try.pinned (OpenSpec.ofChange huffReadsSpec)

/-- ITS FALSE NEIGHBOUR: 'it returns false'. Refute it at one input. -/
def huffReadsWrong : ChangeSpec := { name := "huffReads", fn := fun _ => fun
  | [d1, d2] => { results := [.lit (.bool false)], args := [d1, d2] }
  | _ => none }
def HuffReadsWrongFalsely : Prop := huffReadsRow.holds Try.pinned (OpenSpec.ofChange huffReadsWrong)

/-- 'swinglelaw04.HuffBack': WHATEVER THE INPUT: true; the input reads as it did. -/
def huffBackSpec : ChangeSpec := { name := "huffBack", fn := fun _ => fun
  | [d1, d2] => { results := [.lit (.bool true)], args := [d1, d2] }
  | _ => none }
def huffBackRow : OpenClaim := { program := "ythgjijjalfhhcaa", sum := "3952d2fcd17f54e5cec43ed8a0b5fedec685fd9489d7e97c52e5eb9e51082c02", func := "swingle/swinglelaw04.HuffBack", spec := "huffBack", apart := false }
def HuffBackSaid : Prop := huffBackRow.holds Try.pinned (OpenSpec.ofChange huffBackSpec)

/-- ITS FALSE NEIGHBOUR: 'it returns false'. Refute it at one input. -/
def huffBackWrong : ChangeSpec := { name := "huffBack", fn := fun _ => fun
  | [d1, d2] => { results := [.lit (.bool false)], args := [d1, d2] }
  | _ => none }
def HuffBackWrongFalsely : Prop := huffBackRow.holds Try.pinned (OpenSpec.ofChange huffBackWrong)

/-- 'swinglelaw05.LensFit': WHATEVER THE INPUT: true; the input reads as it did. -/
def lensFitSpec : ChangeSpec := { name := "lensFit", fn := fun _ => fun
  | [d1, d2] => { results := [.lit (.bool true)], args := [d1, d2] }
  | _ => none }
def lensFitRow : OpenClaim := { program := "ythgjijjalfhhcaa", sum := "3952d2fcd17f54e5cec43ed8a0b5fedec685fd9489d7e97c52e5eb9e51082c02", func := "swingle/swinglelaw05.LensFit", spec := "lensFit", unfollowed := true, recurses := true, apart := false }
def LensFitSaid : Prop := lensFitRow.holds Try.pinned (OpenSpec.ofChange lensFitSpec)

/-- ITS FALSE NEIGHBOUR: 'it returns false'. Refute it at one input. -/
def lensFitWrong : ChangeSpec := { name := "lensFit", fn := fun _ => fun
  | [d1, d2] => { results := [.lit (.bool false)], args := [d1, d2] }
  | _ => none }
def LensFitWrongFalsely : Prop := lensFitRow.holds Try.pinned (OpenSpec.ofChange lensFitWrong)

/-- 'swinglelaw05.LensLeast': WHATEVER THE INPUT: true; the input reads as it did. -/
def lensLeastSpec : ChangeSpec := { name := "lensLeast", fn := fun _ => fun
  | [d1, d2] => { results := [.lit (.bool true)], args := [d1, d2] }
  | _ => none }
def lensLeastRow : OpenClaim := { program := "ythgjijjalfhhcaa", sum := "3952d2fcd17f54e5cec43ed8a0b5fedec685fd9489d7e97c52e5eb9e51082c02", func := "swingle/swinglelaw05.LensLeast", spec := "lensLeast", unfollowed := true, recurses := true, apart := false }
def LensLeastSaid : Prop := lensLeastRow.holds Try.pinned (OpenSpec.ofChange lensLeastSpec)

/-- ITS FALSE NEIGHBOUR: 'it returns false'. Refute it at one input. -/
def lensLeastWrong : ChangeSpec := { name := "lensLeast", fn := fun _ => fun
  | [d1, d2] => { results := [.lit (.bool false)], args := [d1, d2] }
  | _ => none }
def LensLeastWrongFalsely : Prop := lensLeastRow.holds Try.pinned (OpenSpec.ofChange lensLeastWrong)

/-- 'swinglelaw05.LensMore': WHATEVER THE INPUT: true; the input reads as it did. -/
def lensMoreSpec : ChangeSpec := { name := "lensMore", fn := fun _ => fun
  | [d1, d2, d3] => { results := [.lit (.bool true)], args := [d1, d2, d3] }
  | _ => none }
def lensMoreRow : OpenClaim := { program := "ythgjijjalfhhcaa", sum := "3952d2fcd17f54e5cec43ed8a0b5fedec685fd9489d7e97c52e5eb9e51082c02", func := "swingle/swinglelaw05.LensMore", spec := "lensMore", unfollowed := true, recurses := true, apart := false }
def LensMoreSaid : Prop := lensMoreRow.holds Try.pinned (OpenSpec.ofChange lensMoreSpec)

/-- ITS FALSE NEIGHBOUR: 'it returns false'. Refute it at one input. -/
def lensMoreWrong : ChangeSpec := { name := "lensMore", fn := fun _ => fun
  | [d1, d2, d3] => { results := [.lit (.bool false)], args := [d1, d2, d3] }
  | _ => none }
def LensMoreWrongFalsely : Prop := lensMoreRow.holds Try.pinned (OpenSpec.ofChange lensMoreWrong)

/-- 'swinglelaw06.SymbolLongs': WHATEVER THE INPUT: true; the input reads as it did. -/
def symbolLongsSpec : ChangeSpec := { name := "symbolLongs", fn := fun _ => fun
  | [d1, d2, d3] => { results := [.lit (.bool true)], args := [d1, d2, d3] }
  | _ => none }
def symbolLongsRow : OpenClaim := { program := "ythgjijjalfhhcaa", sum := "3952d2fcd17f54e5cec43ed8a0b5fedec685fd9489d7e97c52e5eb9e51082c02", func := "swingle/swinglelaw06.SymbolLongs", spec := "symbolLongs", unfollowed := true, recurses := true, apart := false }
def SymbolLongsSaid : Prop := symbolLongsRow.holds Try.pinned (OpenSpec.ofChange symbolLongsSpec)

/-- ITS FALSE NEIGHBOUR: 'it returns false'. Refute it at one input. -/
def symbolLongsWrong : ChangeSpec := { name := "symbolLongs", fn := fun _ => fun
  | [d1, d2, d3] => { results := [.lit (.bool false)], args := [d1, d2, d3] }
  | _ => none }
def SymbolLongsWrongFalsely : Prop := symbolLongsRow.holds Try.pinned (OpenSpec.ofChange symbolLongsWrong)

/-- 'swinglelaw06.SymbolBacks': WHATEVER THE INPUT: true; the input reads as it did. -/
def symbolBacksSpec : ChangeSpec := { name := "symbolBacks", fn := fun _ => fun
  | [d1, d2, d3] => { results := [.lit (.bool true)], args := [d1, d2, d3] }
  | _ => none }
def symbolBacksRow : OpenClaim := { program := "ythgjijjalfhhcaa", sum := "3952d2fcd17f54e5cec43ed8a0b5fedec685fd9489d7e97c52e5eb9e51082c02", func := "swingle/swinglelaw06.SymbolBacks", spec := "symbolBacks", unfollowed := true, recurses := true, apart := false }
def SymbolBacksSaid : Prop := symbolBacksRow.holds Try.pinned (OpenSpec.ofChange symbolBacksSpec)

/-- ITS FALSE NEIGHBOUR: 'it returns false'. Refute it at one input. -/
def symbolBacksWrong : ChangeSpec := { name := "symbolBacks", fn := fun _ => fun
  | [d1, d2, d3] => { results := [.lit (.bool false)], args := [d1, d2, d3] }
  | _ => none }
def SymbolBacksWrongFalsely : Prop := symbolBacksRow.holds Try.pinned (OpenSpec.ofChange symbolBacksWrong)

/-- 'swinglelaw06.SymbolBack': WHATEVER THE INPUT: true; the input reads as it did. -/
def symbolBackSpec : ChangeSpec := { name := "symbolBack", fn := fun _ => fun
  | [d1, d2] => { results := [.lit (.bool true)], args := [d1, d2] }
  | _ => none }
def symbolBackRow : OpenClaim := { program := "ythgjijjalfhhcaa", sum := "3952d2fcd17f54e5cec43ed8a0b5fedec685fd9489d7e97c52e5eb9e51082c02", func := "swingle/swinglelaw06.SymbolBack", spec := "symbolBack", unfollowed := true, recurses := true, apart := false }
def SymbolBackSaid : Prop := symbolBackRow.holds Try.pinned (OpenSpec.ofChange symbolBackSpec)

/-- ITS FALSE NEIGHBOUR: 'it returns false'. Refute it at one input. -/
def symbolBackWrong : ChangeSpec := { name := "symbolBack", fn := fun _ => fun
  | [d1, d2] => { results := [.lit (.bool false)], args := [d1, d2] }
  | _ => none }
def SymbolBackWrongFalsely : Prop := symbolBackRow.holds Try.pinned (OpenSpec.ofChange symbolBackWrong)

/-- 'swinglelaw21.EndingReads': WHATEVER THE INPUT: true; the input reads as it did. -/
def endingReadsSpec : ChangeSpec := { name := "endingReads", fn := fun _ => fun
  | [d1, d2] => { results := [.lit (.bool true)], args := [d1, d2] }
  | _ => none }
def endingReadsRow : OpenClaim := { program := "ythgjijjalfhhcaa", sum := "3952d2fcd17f54e5cec43ed8a0b5fedec685fd9489d7e97c52e5eb9e51082c02", func := "swingle/swinglelaw21.EndingReads", spec := "endingReads", unfollowed := true, recurses := true, apart := false }
def EndingReadsSaid : Prop := endingReadsRow.holds Try.pinned (OpenSpec.ofChange endingReadsSpec)

/-- ITS FALSE NEIGHBOUR: 'it returns false'. Refute it at one input. -/
def endingReadsWrong : ChangeSpec := { name := "endingReads", fn := fun _ => fun
  | [d1, d2] => { results := [.lit (.bool false)], args := [d1, d2] }
  | _ => none }
def EndingReadsWrongFalsely : Prop := endingReadsRow.holds Try.pinned (OpenSpec.ofChange endingReadsWrong)

/- THE SECOND FORM. 'bulk': how many values and letters a reading holds, each counted each time it is reached (what is shared counts as often as it is met; a slice's spare places count too). A statement '..UptoSaid' is the law's where the arguments, and the package variables that the reading takes, are together of bulk at most 1048576: NARROWER than '..Said'. Prove '..Said' where nothing that the law and all that it calls make is longer than what came in: it says more and counts as full. Else prove '..UptoSaid'. A law counts once. -/
mutual
def uptoBulk {H : Type} : DataW H → Nat
  | .lit (.string bytes) => bytes.length + 1
  | .lit _ => 1
  | .nil => 1
  | .ptr d => uptoBulk d + 1
  | .slice elems spare => uptoBulkAll elems + uptoBulkAll spare + 1
  | .agg parts => uptoBulkAll parts + 1
  | .iface _ d => uptoBulk d + 1
  | .map entries => uptoBulkEntries entries + 1
  | .held _ => 1
def uptoBulkAll {H : Type} : List (DataW H) → Nat
  | [] => 0
  | d :: r => uptoBulk d + uptoBulkAll r
def uptoBulkEntries {H : Type} : List (Lit × DataW H) → Nat
  | [] => 0
  | x :: r => uptoBulkEntry x + uptoBulkEntries r
def uptoBulkEntry {H : Type} : Lit × DataW H → Nat
  | (.string bytes, d) => bytes.length + uptoBulk d + 1
  | (_, d) => uptoBulk d + 1
 end
def uptoSmall : (H : Type) → List (DataW H) → Bool := fun _ ds => decide (uptoBulkAll ds ≤ 1048576)
def OpenSpec.upto (s : _root_.Go.ChangeSpec) : _root_.Go.OpenSpec := { _root_.Go.OpenSpec.ofChange s with cond := some uptoSmall }

/-- 'swinglelaw04.HuffCodes', WHERE WHAT IT READS IS OF BULK AT MOST 1048576: true; the input reads as it did. -/
def huffCodesUptoRow : OpenClaim := { program := "ythgjijjalfhhcaa", sum := "3952d2fcd17f54e5cec43ed8a0b5fedec685fd9489d7e97c52e5eb9e51082c02", func := "swingle/swinglelaw04.HuffCodes", spec := "huffCodes", apart := false, narrowed := true }
def HuffCodesUptoSaid : Prop := huffCodesUptoRow.holds Try.pinned (OpenSpec.upto huffCodesSpec)

/-- 'swinglelaw04.HuffReads', WHERE WHAT IT READS IS OF BULK AT MOST 1048576: true; the input reads as it did. -/
def huffReadsUptoRow : OpenClaim := { program := "ythgjijjalfhhcaa", sum := "3952d2fcd17f54e5cec43ed8a0b5fedec685fd9489d7e97c52e5eb9e51082c02", func := "swingle/swinglelaw04.HuffReads", spec := "huffReads", apart := false, narrowed := true }
def HuffReadsUptoSaid : Prop := huffReadsUptoRow.holds Try.pinned (OpenSpec.upto huffReadsSpec)

/-- 'swinglelaw04.HuffBack', WHERE WHAT IT READS IS OF BULK AT MOST 1048576: true; the input reads as it did. -/
def huffBackUptoRow : OpenClaim := { program := "ythgjijjalfhhcaa", sum := "3952d2fcd17f54e5cec43ed8a0b5fedec685fd9489d7e97c52e5eb9e51082c02", func := "swingle/swinglelaw04.HuffBack", spec := "huffBack", apart := false, narrowed := true }
def HuffBackUptoSaid : Prop := huffBackUptoRow.holds Try.pinned (OpenSpec.upto huffBackSpec)

/-- 'swinglelaw05.LensFit', WHERE WHAT IT READS IS OF BULK AT MOST 1048576: true; the input reads as it did. -/
def lensFitUptoRow : OpenClaim := { program := "ythgjijjalfhhcaa", sum := "3952d2fcd17f54e5cec43ed8a0b5fedec685fd9489d7e97c52e5eb9e51082c02", func := "swingle/swinglelaw05.LensFit", spec := "lensFit", unfollowed := true, recurses := true, apart := false, narrowed := true }
def LensFitUptoSaid : Prop := lensFitUptoRow.holds Try.pinned (OpenSpec.upto lensFitSpec)

/-- 'swinglelaw05.LensLeast', WHERE WHAT IT READS IS OF BULK AT MOST 1048576: true; the input reads as it did. -/
def lensLeastUptoRow : OpenClaim := { program := "ythgjijjalfhhcaa", sum := "3952d2fcd17f54e5cec43ed8a0b5fedec685fd9489d7e97c52e5eb9e51082c02", func := "swingle/swinglelaw05.LensLeast", spec := "lensLeast", unfollowed := true, recurses := true, apart := false, narrowed := true }
def LensLeastUptoSaid : Prop := lensLeastUptoRow.holds Try.pinned (OpenSpec.upto lensLeastSpec)

/-- 'swinglelaw05.LensMore', WHERE WHAT IT READS IS OF BULK AT MOST 1048576: true; the input reads as it did. -/
def lensMoreUptoRow : OpenClaim := { program := "ythgjijjalfhhcaa", sum := "3952d2fcd17f54e5cec43ed8a0b5fedec685fd9489d7e97c52e5eb9e51082c02", func := "swingle/swinglelaw05.LensMore", spec := "lensMore", unfollowed := true, recurses := true, apart := false, narrowed := true }
def LensMoreUptoSaid : Prop := lensMoreUptoRow.holds Try.pinned (OpenSpec.upto lensMoreSpec)

/-- 'swinglelaw06.SymbolLongs', WHERE WHAT IT READS IS OF BULK AT MOST 1048576: true; the input reads as it did. -/
def symbolLongsUptoRow : OpenClaim := { program := "ythgjijjalfhhcaa", sum := "3952d2fcd17f54e5cec43ed8a0b5fedec685fd9489d7e97c52e5eb9e51082c02", func := "swingle/swinglelaw06.SymbolLongs", spec := "symbolLongs", unfollowed := true, recurses := true, apart := false, narrowed := true }
def SymbolLongsUptoSaid : Prop := symbolLongsUptoRow.holds Try.pinned (OpenSpec.upto symbolLongsSpec)

/-- 'swinglelaw06.SymbolBacks', WHERE WHAT IT READS IS OF BULK AT MOST 1048576: true; the input reads as it did. -/
def symbolBacksUptoRow : OpenClaim := { program := "ythgjijjalfhhcaa", sum := "3952d2fcd17f54e5cec43ed8a0b5fedec685fd9489d7e97c52e5eb9e51082c02", func := "swingle/swinglelaw06.SymbolBacks", spec := "symbolBacks", unfollowed := true, recurses := true, apart := false, narrowed := true }
def SymbolBacksUptoSaid : Prop := symbolBacksUptoRow.holds Try.pinned (OpenSpec.upto symbolBacksSpec)

/-- 'swinglelaw06.SymbolBack', WHERE WHAT IT READS IS OF BULK AT MOST 1048576: true; the input reads as it did. -/
def symbolBackUptoRow : OpenClaim := { program := "ythgjijjalfhhcaa", sum := "3952d2fcd17f54e5cec43ed8a0b5fedec685fd9489d7e97c52e5eb9e51082c02", func := "swingle/swinglelaw06.SymbolBack", spec := "symbolBack", unfollowed := true, recurses := true, apart := false, narrowed := true }
def SymbolBackUptoSaid : Prop := symbolBackUptoRow.holds Try.pinned (OpenSpec.upto symbolBackSpec)

/-- 'swinglelaw21.EndingReads', WHERE WHAT IT READS IS OF BULK AT MOST 1048576: true; the input reads as it did. -/
def endingReadsUptoRow : OpenClaim := { program := "ythgjijjalfhhcaa", sum := "3952d2fcd17f54e5cec43ed8a0b5fedec685fd9489d7e97c52e5eb9e51082c02", func := "swingle/swinglelaw21.EndingReads", spec := "endingReads", unfollowed := true, recurses := true, apart := false, narrowed := true }
def EndingReadsUptoSaid : Prop := endingReadsUptoRow.holds Try.pinned (OpenSpec.upto endingReadsSpec)

end Rows
end Go.Proofs.Ythgjijjalfhhcaa
