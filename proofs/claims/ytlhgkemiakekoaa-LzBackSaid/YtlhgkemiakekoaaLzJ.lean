/- LZ: a text of one byte: nothing comes again. -/
import Derived.Test.YtlhgkemiakekoaaLzI
import Derived.RangeFuncNested
import Derived.RangeFuncBound
import Derived.RangeFuncCalls
import Derived.RangeFuncLeaves
import Derived.RangeFuncFrom
import Derived.Shelf.Abstract
import Derived.Shelf.RegionOpen
import Derived.OwnWalkIn
import Derived.TacticsInMore
namespace Go.Proofs.Ytlhgkemiakekoaa
set_option linter.unusedVariables false
open Go.RowKit Go.Shelf
attribute [local go_sem] Oper.semAt_some
namespace Lz
theorem grown_of_below {W W' : World} (h : Below W.heap.size W W') : W.grownBy W' none := ⟨h.os, h.tape, h.output, h.size, fun k hk _ => h.block k hk⟩

set_option maxRecDepth 100000 in
set_option maxHeartbeats 2000000 in
theorem iter1 (n : Nat) (hn : 1 ≤ n) (l B2 B3 G : Nat) (s : ByteArray) (hs : s.size < 3) (J Jx : List Nat → World → Prop) (W : World)
    (hJ : ∀ W', Below W.heap.size W W' → J [] W') (h2 : W.cell? ⟨B2, 0, none⟩ = some (.pointer (some ⟨G, 0, none⟩))) (h3 : W.cell? ⟨B3, 0, none⟩ = some (.int .i64 0)) (hG : W.cell? ⟨G, 0, none⟩ = some (.string s)) :
    CallsIn Fence.wide n Try.prog 26 #[.func (.yield l) #[] #[], .pointer (some ⟨B2, 0, none⟩), .pointer (some ⟨B3, 0, none⟩)] W fun e W' => (∃ v, e = .returned v) ∧
      ((∃ ys : List Nat, ys = [] ∧ J ys W') ∨ (∃ pre : List Nat, False ∧ Jx pre W')) := by
  have HJ := hid hJ
  have HK := hid (keyAt_no s 0 G W (by omega) (by omega) (by omega) (by omega) (World.block_lt_of_cell? _ _ hG) hG)
  clear hJ hs
  refine callsIn_of_wp Try.func26 rfl trivial ?_ rfl
  simp only [Try.ntmps26, List.size_toArray, List.length_cons, List.length_nil, Nat.reduceAdd, Nat.reduceSub, Array.replicate_succ, Array.replicate_zero, List.push_toArray, List.append_toArray, List.nil_append, List.cons_append]
  gi_wp2
  refine ⟨trivial, (callsIn_wide.2 HK.out).mono ?_⟩
  rintro e w1 ⟨rfl, b1⟩
  gi_wp2
  refine bodyPost_ret (results_none rfl _ _ _) rfl ?_
  exact ⟨⟨_, rfl⟩, .inl (by first | exact ⟨[], rfl, HJ.out _ (b1.alloc b1.size _)⟩ | exact HJ.out _ (b1.alloc b1.size _))⟩
end Lz
end Go.Proofs.Ytlhgkemiakekoaa
