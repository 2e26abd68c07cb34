/-
  No cell of these rows narrows 'for every input' (looked for: loops, veiled, ifaces, maps, wideKeys, modest, calm, conditions, laid).
  DERIVED. THE GIVEN ROWS OF THIS SEAT. 4 by the template 'for every input the law returns true; each argument reads behind the call as it read before'; 0 by the template 'total and deterministic' (their statements: YtlhgkemiakekoaaTotals.lean).
  GIVEN WITH THE SEED: the statements are not yours to turn. If you find one false, say at which input.
  Laid BY PROGRAM, IN A SANDBOX (cutbox-rows.mjs): the forced cells as the released guide's own fill.sh prints them over the translation 67adedf5a8edd187… (all of the seat's roots in one cut). By AI agents, Wed Nov 11 2026. No macro, syntax, notation, axiom, sorry.
-/
import Derived.Test.YtlhgkemiakekoaaChecked
import GoSem.Claim
import GoSem.ClaimJoined
import GoSem.ClaimMapViews
import Derived.JoinedTies
import Derived.KernelRfl
namespace Go.Proofs.Ytlhgkemiakekoaa
/- THE CELL 'sum', in the pinned program and in every row, IS THE sha256 OF THE DUMP (.gsa) THAT YtlhgkemiakekoaaProg.lean LOADS. Nothing in Lean hashes anything: it is a label: what it is worth is what the hold of that sum in a sandbox is worth. -/
noncomputable def Try.pinned : Pinned := { name := "ytlhgkemiakekoaa", sum := "67adedf5a8edd18707fe2f73b81b6554ca453971ba1ed40e74a5fc53ad88c8e5", checked := Try.checked }
namespace Rows
def none {H : Type} : Left H := { results := [], args := [] }

/-- 'swinglelaw07.LzExpands': WHATEVER THE INPUT: true; the input reads as it did. -/
def lzExpandsSpec : ChangeSpec := { name := "lzExpands", fn := fun _ => fun
  | [d] => { results := [.lit (.bool true)], args := [d] }
  | _ => none }
def lzExpandsRow : OpenClaim := { program := "ytlhgkemiakekoaa", sum := "67adedf5a8edd18707fe2f73b81b6554ca453971ba1ed40e74a5fc53ad88c8e5", func := "swingle/swinglelaw07.LzExpands", spec := "lzExpands", unfollowed := true, recurses := true, plainKeys := false, apart := false }
def LzExpandsSaid : Prop := lzExpandsRow.holds Try.pinned (OpenSpec.ofChange lzExpandsSpec)

/-- ITS FALSE NEIGHBOUR: 'it returns false'. Refute it at one input. -/
def lzExpandsWrong : ChangeSpec := { name := "lzExpands", fn := fun _ => fun
  | [d] => { results := [.lit (.bool false)], args := [d] }
  | _ => none }
def LzExpandsWrongFalsely : Prop := lzExpandsRow.holds Try.pinned (OpenSpec.ofChange lzExpandsWrong)

/-- 'swinglelaw07.LzLongs': WHATEVER THE INPUT: true; the input reads as it did. -/
def lzLongsSpec : ChangeSpec := { name := "lzLongs", fn := fun _ => fun
  | [d1, d2, d3] => { results := [.lit (.bool true)], args := [d1, d2, d3] }
  | _ => none }
def lzLongsRow : OpenClaim := { program := "ytlhgkemiakekoaa", sum := "67adedf5a8edd18707fe2f73b81b6554ca453971ba1ed40e74a5fc53ad88c8e5", func := "swingle/swinglelaw07.LzLongs", spec := "lzLongs", unfollowed := true, recurses := true, plainKeys := false, apart := false }
def LzLongsSaid : Prop := lzLongsRow.holds Try.pinned (OpenSpec.ofChange lzLongsSpec)

/-- ITS FALSE NEIGHBOUR: 'it returns false'. Refute it at one input. -/
def lzLongsWrong : ChangeSpec := { name := "lzLongs", fn := fun _ => fun
  | [d1, d2, d3] => { results := [.lit (.bool false)], args := [d1, d2, d3] }
  | _ => none }
def LzLongsWrongFalsely : Prop := lzLongsRow.holds Try.pinned (OpenSpec.ofChange lzLongsWrong)

/-- 'swinglelaw07.LzBack': WHATEVER THE INPUT: true; the input reads as it did. -/
def lzBackSpec : ChangeSpec := { name := "lzBack", fn := fun _ => fun
  | [d1, d2, d3] => { results := [.lit (.bool true)], args := [d1, d2, d3] }
  | _ => none }
def lzBackRow : OpenClaim := { program := "ytlhgkemiakekoaa", sum := "67adedf5a8edd18707fe2f73b81b6554ca453971ba1ed40e74a5fc53ad88c8e5", func := "swingle/swinglelaw07.LzBack", spec := "lzBack", unfollowed := true, recurses := true, plainKeys := false, apart := false }
def LzBackSaid : Prop := lzBackRow.holds Try.pinned (OpenSpec.ofChange lzBackSpec)

/-- ITS FALSE NEIGHBOUR: 'it returns false'. Refute it at one input. -/
def lzBackWrong : ChangeSpec := { name := "lzBack", fn := fun _ => fun
  | [d1, d2, d3] => { results := [.lit (.bool false)], args := [d1, d2, d3] }
  | _ => none }
def LzBackWrongFalsely : Prop := lzBackRow.holds Try.pinned (OpenSpec.ofChange lzBackWrong)

/-- 'swinglelaw07.LzLimit': WHATEVER THE INPUT: true; the input reads as it did. -/
def lzLimitSpec : ChangeSpec := { name := "lzLimit", fn := fun _ => fun
  | [d1, d2] => { results := [.lit (.bool true)], args := [d1, d2] }
  | _ => none }
def lzLimitRow : OpenClaim := { program := "ytlhgkemiakekoaa", sum := "67adedf5a8edd18707fe2f73b81b6554ca453971ba1ed40e74a5fc53ad88c8e5", func := "swingle/swinglelaw07.LzLimit", spec := "lzLimit", unfollowed := true, recurses := true, plainKeys := false, apart := false }
def LzLimitSaid : Prop := lzLimitRow.holds Try.pinned (OpenSpec.ofChange lzLimitSpec)

/-- ITS FALSE NEIGHBOUR: 'it returns false'. Refute it at one input. -/
def lzLimitWrong : ChangeSpec := { name := "lzLimit", fn := fun _ => fun
  | [d1, d2] => { results := [.lit (.bool false)], args := [d1, d2] }
  | _ => none }
def LzLimitWrongFalsely : Prop := lzLimitRow.holds Try.pinned (OpenSpec.ofChange lzLimitWrong)

/- THE SECOND FORM. 'bulk': how many values and letters a reading holds, each counted each time it is reached (what is shared counts as often as it is met; a slice's spare places count too). A statement '..UptoSaid' is the law's where the arguments, and the package variables that the reading takes, are together of bulk at most 1048576: NARROWER than '..Said'. Prove '..Said' where nothing that the law and all that it calls make is longer than what came in: it says more and counts as full. Else prove '..UptoSaid'. A law counts once. -/
mutual
def uptoBulk {H : Type} : DataW H → Nat
  | .lit (.string bytes) => bytes.length + 1
  | .lit _ => 1
  | .nil => 1
  | .ptr d => uptoBulk d + 1
  | .slice elems spare => uptoBulkAll elems + uptoBulkAll spare + 1
  | .agg parts => uptoBulkAll parts + 1
  | .iface _ d => uptoBulk d + 1
  | .map entries => uptoBulkEntries entries + 1
  | .held _ => 1
def uptoBulkAll {H : Type} : List (DataW H) → Nat
  | [] => 0
  | d :: r => uptoBulk d + uptoBulkAll r
def uptoBulkEntries {H : Type} : List (Lit × DataW H) → Nat
  | [] => 0
  | x :: r => uptoBulkEntry x + uptoBulkEntries r
def uptoBulkEntry {H : Type} : Lit × DataW H → Nat
  | (.string bytes, d) => bytes.length + uptoBulk d + 1
  | (_, d) => uptoBulk d + 1
 end
def uptoSmall : (H : Type) → List (DataW H) → Bool := fun _ ds => decide (uptoBulkAll ds ≤ 1048576)
def OpenSpec.upto (s : _root_.Go.ChangeSpec) : _root_.Go.OpenSpec := { _root_.Go.OpenSpec.ofChange s with cond := some uptoSmall }

/-- 'swinglelaw07.LzExpands', WHERE WHAT IT READS IS OF BULK AT MOST 1048576: true; the input reads as it did. -/
def lzExpandsUptoRow : OpenClaim := { program := "ytlhgkemiakekoaa", sum := "67adedf5a8edd18707fe2f73b81b6554ca453971ba1ed40e74a5fc53ad88c8e5", func := "swingle/swinglelaw07.LzExpands", spec := "lzExpands", unfollowed := true, recurses := true, plainKeys := false, apart := false, narrowed := true }
def LzExpandsUptoSaid : Prop := lzExpandsUptoRow.holds Try.pinned (OpenSpec.upto lzExpandsSpec)

/-- 'swinglelaw07.LzLongs', WHERE WHAT IT READS IS OF BULK AT MOST 1048576: true; the input reads as it did. -/
def lzLongsUptoRow : OpenClaim := { program := "ytlhgkemiakekoaa", sum := "67adedf5a8edd18707fe2f73b81b6554ca453971ba1ed40e74a5fc53ad88c8e5", func := "swingle/swinglelaw07.LzLongs", spec := "lzLongs", unfollowed := true, recurses := true, plainKeys := false, apart := false, narrowed := true }
def LzLongsUptoSaid : Prop := lzLongsUptoRow.holds Try.pinned (OpenSpec.upto lzLongsSpec)

/-- 'swinglelaw07.LzBack', WHERE WHAT IT READS IS OF BULK AT MOST 1048576: true; the input reads as it did. -/
def lzBackUptoRow : OpenClaim := { program := "ytlhgkemiakekoaa", sum := "67adedf5a8edd18707fe2f73b81b6554ca453971ba1ed40e74a5fc53ad88c8e5", func := "swingle/swinglelaw07.LzBack", spec := "lzBack", unfollowed := true, recurses := true, plainKeys := false, apart := false, narrowed := true }
def LzBackUptoSaid : Prop := lzBackUptoRow.holds Try.pinned (OpenSpec.upto lzBackSpec)

/-- 'swinglelaw07.LzLimit', WHERE WHAT IT READS IS OF BULK AT MOST 1048576: true; the input reads as it did. -/
def lzLimitUptoRow : OpenClaim := { program := "ytlhgkemiakekoaa", sum := "67adedf5a8edd18707fe2f73b81b6554ca453971ba1ed40e74a5fc53ad88c8e5", func := "swingle/swinglelaw07.LzLimit", spec := "lzLimit", unfollowed := true, recurses := true, plainKeys := false, apart := false, narrowed := true }
def LzLimitUptoSaid : Prop := lzLimitUptoRow.holds Try.pinned (OpenSpec.upto lzLimitSpec)

end Rows
end Go.Proofs.Ytlhgkemiakekoaa
