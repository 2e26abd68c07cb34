/-
  No cell of these rows narrows 'for every input' (looked for: loops, veiled, ifaces, maps, wideKeys, modest, calm, conditions, laid).
  DERIVED. THE GIVEN ROWS OF THIS SEAT. 6 by the template 'for every input the law returns true; each argument reads behind the call as it read before'; 0 by the template 'total and deterministic' (their statements: YtlfohihmkfphhaaTotals.lean).
  GIVEN WITH THE SEED: the statements are not yours to turn. If you find one false, say at which input.
  Laid BY PROGRAM, IN A SANDBOX (cutbox-rows.mjs): the forced cells as the released guide's own fill.sh prints them over the translation e3ebd4bffcc10c99… (all of the seat's roots in one cut). By AI agents, Wed Nov 11 2026. No macro, syntax, notation, axiom, sorry.
-/
import Derived.Test.YtlfohihmkfphhaaChecked
import GoSem.Claim
import GoSem.ClaimJoined
import GoSem.ClaimMapViews
import Derived.JoinedTies
import Derived.KernelRfl
namespace Go.Proofs.Ytlfohihmkfphhaa
/- THE CELL 'sum', in the pinned program and in every row, IS THE sha256 OF THE DUMP (.gsa) THAT YtlfohihmkfphhaaProg.lean LOADS. Nothing in Lean hashes anything: it is a label: what it is worth is what the hold of that sum in a sandbox is worth. -/
noncomputable def Try.pinned : Pinned := { name := "ytlfohihmkfphhaa", sum := "e3ebd4bffcc10c99f8b3c48c5e7e35d12cdb8760fa3f63ffcff33dcd1a4eb0bc", checked := Try.checked }
namespace Rows
def none {H : Type} : Left H := { results := [], args := [] }

/-- 'swinglelaw05.LensFit': WHATEVER THE INPUT: true; the input reads as it did. -/
def lensFitSpec : ChangeSpec := { name := "lensFit", fn := fun _ => fun
  | [d1, d2] => { results := [.lit (.bool true)], args := [d1, d2] }
  | _ => none }
def lensFitRow : OpenClaim := { program := "ytlfohihmkfphhaa", sum := "e3ebd4bffcc10c99f8b3c48c5e7e35d12cdb8760fa3f63ffcff33dcd1a4eb0bc", func := "swingle/swinglelaw05.LensFit", spec := "lensFit", unfollowed := true, recurses := true, apart := false }
def LensFitSaid : Prop := lensFitRow.holds Try.pinned (OpenSpec.ofChange lensFitSpec)

/-- ITS FALSE NEIGHBOUR: 'it returns false'. Refute it at one input. -/
def lensFitWrong : ChangeSpec := { name := "lensFit", fn := fun _ => fun
  | [d1, d2] => { results := [.lit (.bool false)], args := [d1, d2] }
  | _ => none }
def LensFitWrongFalsely : Prop := lensFitRow.holds Try.pinned (OpenSpec.ofChange lensFitWrong)

/-- 'swinglelaw05.LensLeast': WHATEVER THE INPUT: true; the input reads as it did. -/
def lensLeastSpec : ChangeSpec := { name := "lensLeast", fn := fun _ => fun
  | [d1, d2] => { results := [.lit (.bool true)], args := [d1, d2] }
  | _ => none }
def lensLeastRow : OpenClaim := { program := "ytlfohihmkfphhaa", sum := "e3ebd4bffcc10c99f8b3c48c5e7e35d12cdb8760fa3f63ffcff33dcd1a4eb0bc", func := "swingle/swinglelaw05.LensLeast", spec := "lensLeast", unfollowed := true, recurses := true, apart := false }
def LensLeastSaid : Prop := lensLeastRow.holds Try.pinned (OpenSpec.ofChange lensLeastSpec)

/-- ITS FALSE NEIGHBOUR: 'it returns false'. Refute it at one input. -/
def lensLeastWrong : ChangeSpec := { name := "lensLeast", fn := fun _ => fun
  | [d1, d2] => { results := [.lit (.bool false)], args := [d1, d2] }
  | _ => none }
def LensLeastWrongFalsely : Prop := lensLeastRow.holds Try.pinned (OpenSpec.ofChange lensLeastWrong)

/-- 'swinglelaw05.LensMore': WHATEVER THE INPUT: true; the input reads as it did. -/
def lensMoreSpec : ChangeSpec := { name := "lensMore", fn := fun _ => fun
  | [d1, d2, d3] => { results := [.lit (.bool true)], args := [d1, d2, d3] }
  | _ => none }
def lensMoreRow : OpenClaim := { program := "ytlfohihmkfphhaa", sum := "e3ebd4bffcc10c99f8b3c48c5e7e35d12cdb8760fa3f63ffcff33dcd1a4eb0bc", func := "swingle/swinglelaw05.LensMore", spec := "lensMore", unfollowed := true, recurses := true, apart := false }
def LensMoreSaid : Prop := lensMoreRow.holds Try.pinned (OpenSpec.ofChange lensMoreSpec)

/-- ITS FALSE NEIGHBOUR: 'it returns false'. Refute it at one input. -/
def lensMoreWrong : ChangeSpec := { name := "lensMore", fn := fun _ => fun
  | [d1, d2, d3] => { results := [.lit (.bool false)], args := [d1, d2, d3] }
  | _ => none }
def LensMoreWrongFalsely : Prop := lensMoreRow.holds Try.pinned (OpenSpec.ofChange lensMoreWrong)

/-- 'swinglelaw08.InflateOf': WHATEVER THE INPUT: true; the input reads as it did. -/
def inflateOfSpec : ChangeSpec := { name := "inflateOf", fn := fun _ => fun
  | [d1, d2] => { results := [.lit (.bool true)], args := [d1, d2] }
  | _ => none }
def inflateOfRow : OpenClaim := { program := "ytlfohihmkfphhaa", sum := "e3ebd4bffcc10c99f8b3c48c5e7e35d12cdb8760fa3f63ffcff33dcd1a4eb0bc", func := "swingle/swinglelaw08.InflateOf", spec := "inflateOf", unfollowed := true, recurses := true, apart := false }
def InflateOfSaid : Prop := inflateOfRow.holds Try.pinned (OpenSpec.ofChange inflateOfSpec)

/-- ITS FALSE NEIGHBOUR: 'it returns false'. Refute it at one input. -/
def inflateOfWrong : ChangeSpec := { name := "inflateOf", fn := fun _ => fun
  | [d1, d2] => { results := [.lit (.bool false)], args := [d1, d2] }
  | _ => none }
def InflateOfWrongFalsely : Prop := inflateOfRow.holds Try.pinned (OpenSpec.ofChange inflateOfWrong)

/-- 'swinglelaw08.InflateTables': WHATEVER THE INPUT: true; the input reads as it did. -/
def inflateTablesSpec : ChangeSpec := { name := "inflateTables", fn := fun _ => fun
  | [d1, d2, d3] => { results := [.lit (.bool true)], args := [d1, d2, d3] }
  | _ => none }
def inflateTablesRow : OpenClaim := { program := "ytlfohihmkfphhaa", sum := "e3ebd4bffcc10c99f8b3c48c5e7e35d12cdb8760fa3f63ffcff33dcd1a4eb0bc", func := "swingle/swinglelaw08.InflateTables", spec := "inflateTables", unfollowed := true, recurses := true, apart := false }
def InflateTablesSaid : Prop := inflateTablesRow.holds Try.pinned (OpenSpec.ofChange inflateTablesSpec)

/-- ITS FALSE NEIGHBOUR: 'it returns false'. Refute it at one input. -/
def inflateTablesWrong : ChangeSpec := { name := "inflateTables", fn := fun _ => fun
  | [d1, d2, d3] => { results := [.lit (.bool false)], args := [d1, d2, d3] }
  | _ => none }
def InflateTablesWrongFalsely : Prop := inflateTablesRow.holds Try.pinned (OpenSpec.ofChange inflateTablesWrong)

/-- 'swinglelaw08.InflateEnds': WHATEVER THE INPUT: true; the input reads as it did. -/
def inflateEndsSpec : ChangeSpec := { name := "inflateEnds", fn := fun _ => fun
  | [d1, d2, d3] => { results := [.lit (.bool true)], args := [d1, d2, d3] }
  | _ => none }
def inflateEndsRow : OpenClaim := { program := "ytlfohihmkfphhaa", sum := "e3ebd4bffcc10c99f8b3c48c5e7e35d12cdb8760fa3f63ffcff33dcd1a4eb0bc", func := "swingle/swinglelaw08.InflateEnds", spec := "inflateEnds", unfollowed := true, recurses := true, apart := false }
def InflateEndsSaid : Prop := inflateEndsRow.holds Try.pinned (OpenSpec.ofChange inflateEndsSpec)

/-- ITS FALSE NEIGHBOUR: 'it returns false'. Refute it at one input. -/
def inflateEndsWrong : ChangeSpec := { name := "inflateEnds", fn := fun _ => fun
  | [d1, d2, d3] => { results := [.lit (.bool false)], args := [d1, d2, d3] }
  | _ => none }
def InflateEndsWrongFalsely : Prop := inflateEndsRow.holds Try.pinned (OpenSpec.ofChange inflateEndsWrong)

/- THE SECOND FORM. 'bulk': how many values and letters a reading holds, each counted each time it is reached (what is shared counts as often as it is met; a slice's spare places count too). A statement '..UptoSaid' is the law's where the arguments, and the package variables that the reading takes, are together of bulk at most 1048576: NARROWER than '..Said'. Prove '..Said' where nothing that the law and all that it calls make is longer than what came in: it says more and counts as full. Else prove '..UptoSaid'. A law counts once. -/
mutual
def uptoBulk {H : Type} : DataW H → Nat
  | .lit (.string bytes) => bytes.length + 1
  | .lit _ => 1
  | .nil => 1
  | .ptr d => uptoBulk d + 1
  | .slice elems spare => uptoBulkAll elems + uptoBulkAll spare + 1
  | .agg parts => uptoBulkAll parts + 1
  | .iface _ d => uptoBulk d + 1
  | .map entries => uptoBulkEntries entries + 1
  | .held _ => 1
def uptoBulkAll {H : Type} : List (DataW H) → Nat
  | [] => 0
  | d :: r => uptoBulk d + uptoBulkAll r
def uptoBulkEntries {H : Type} : List (Lit × DataW H) → Nat
  | [] => 0
  | x :: r => uptoBulkEntry x + uptoBulkEntries r
def uptoBulkEntry {H : Type} : Lit × DataW H → Nat
  | (.string bytes, d) => bytes.length + uptoBulk d + 1
  | (_, d) => uptoBulk d + 1
 end
def uptoSmall : (H : Type) → List (DataW H) → Bool := fun _ ds => decide (uptoBulkAll ds ≤ 1048576)
def OpenSpec.upto (s : _root_.Go.ChangeSpec) : _root_.Go.OpenSpec := { _root_.Go.OpenSpec.ofChange s with cond := some uptoSmall }

/-- 'swinglelaw05.LensFit', WHERE WHAT IT READS IS OF BULK AT MOST 1048576: true; the input reads as it did. -/
def lensFitUptoRow : OpenClaim := { program := "ytlfohihmkfphhaa", sum := "e3ebd4bffcc10c99f8b3c48c5e7e35d12cdb8760fa3f63ffcff33dcd1a4eb0bc", func := "swingle/swinglelaw05.LensFit", spec := "lensFit", unfollowed := true, recurses := true, apart := false, narrowed := true }
def LensFitUptoSaid : Prop := lensFitUptoRow.holds Try.pinned (OpenSpec.upto lensFitSpec)

/-- 'swinglelaw05.LensLeast', WHERE WHAT IT READS IS OF BULK AT MOST 1048576: true; the input reads as it did. -/
def lensLeastUptoRow : OpenClaim := { program := "ytlfohihmkfphhaa", sum := "e3ebd4bffcc10c99f8b3c48c5e7e35d12cdb8760fa3f63ffcff33dcd1a4eb0bc", func := "swingle/swinglelaw05.LensLeast", spec := "lensLeast", unfollowed := true, recurses := true, apart := false, narrowed := true }
def LensLeastUptoSaid : Prop := lensLeastUptoRow.holds Try.pinned (OpenSpec.upto lensLeastSpec)

/-- 'swinglelaw05.LensMore', WHERE WHAT IT READS IS OF BULK AT MOST 1048576: true; the input reads as it did. -/
def lensMoreUptoRow : OpenClaim := { program := "ytlfohihmkfphhaa", sum := "e3ebd4bffcc10c99f8b3c48c5e7e35d12cdb8760fa3f63ffcff33dcd1a4eb0bc", func := "swingle/swinglelaw05.LensMore", spec := "lensMore", unfollowed := true, recurses := true, apart := false, narrowed := true }
def LensMoreUptoSaid : Prop := lensMoreUptoRow.holds Try.pinned (OpenSpec.upto lensMoreSpec)

/-- 'swinglelaw08.InflateOf', WHERE WHAT IT READS IS OF BULK AT MOST 1048576: true; the input reads as it did. -/
def inflateOfUptoRow : OpenClaim := { program := "ytlfohihmkfphhaa", sum := "e3ebd4bffcc10c99f8b3c48c5e7e35d12cdb8760fa3f63ffcff33dcd1a4eb0bc", func := "swingle/swinglelaw08.InflateOf", spec := "inflateOf", unfollowed := true, recurses := true, apart := false, narrowed := true }
def InflateOfUptoSaid : Prop := inflateOfUptoRow.holds Try.pinned (OpenSpec.upto inflateOfSpec)

/-- 'swinglelaw08.InflateTables', WHERE WHAT IT READS IS OF BULK AT MOST 1048576: true; the input reads as it did. -/
def inflateTablesUptoRow : OpenClaim := { program := "ytlfohihmkfphhaa", sum := "e3ebd4bffcc10c99f8b3c48c5e7e35d12cdb8760fa3f63ffcff33dcd1a4eb0bc", func := "swingle/swinglelaw08.InflateTables", spec := "inflateTables", unfollowed := true, recurses := true, apart := false, narrowed := true }
def InflateTablesUptoSaid : Prop := inflateTablesUptoRow.holds Try.pinned (OpenSpec.upto inflateTablesSpec)

/-- 'swinglelaw08.InflateEnds', WHERE WHAT IT READS IS OF BULK AT MOST 1048576: true; the input reads as it did. -/
def inflateEndsUptoRow : OpenClaim := { program := "ytlfohihmkfphhaa", sum := "e3ebd4bffcc10c99f8b3c48c5e7e35d12cdb8760fa3f63ffcff33dcd1a4eb0bc", func := "swingle/swinglelaw08.InflateEnds", spec := "inflateEnds", unfollowed := true, recurses := true, apart := false, narrowed := true }
def InflateEndsUptoSaid : Prop := inflateEndsUptoRow.holds Try.pinned (OpenSpec.upto inflateEndsSpec)

end Rows
end Go.Proofs.Ytlfohihmkfphhaa
