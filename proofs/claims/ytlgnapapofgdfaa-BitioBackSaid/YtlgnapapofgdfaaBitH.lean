/- BitioBack: what its walk speaks of: a text's first bytes; what stands behind the first steps. -/
import Derived.RangeFuncNested
import Derived.RangeFuncBound
import Derived.RangeFuncCalls
import Derived.RangeFuncLeaves
import Derived.Shelf.Abstract
import Derived.Shelf.RegionOpen
import Derived.OwnWalkIn
import Derived.TacticsInMore
import Derived.LoopNIn
import Derived.LoopIn
import Derived.Sort.CutIn
import Derived.Test.YtlgnapapofgdfaaBitX
import Derived.Test.YtlgnapapofgdfaaBitQ
import Derived.Test.YtlgnapapofgdfaaBitG
namespace Go.Proofs.Ytlgnapapofgdfaa
set_option linter.unusedVariables false
open Go.RowKit Go.Shelf
open Go.Proofs.Bit
attribute [local go_sem] Oper.semAt_some

/-- A text's first 50 bytes. -/
def cut50 (s : ByteArray) : ByteArray := if s.size ≤ 50 then s else s.extract 0 50
theorem cut50_le (s : ByteArray) : (cut50 s).size ≤ 50 := by
  unfold cut50
  split
  · assumption
  · simp; omega

/-- Behind the first steps: a writer of so many bits; a writer of none; the number that came in. -/
structure Mid (w W : World) (most : Int) (N n : Nat) : Prop where
  wt : Wt W (w.heap.size + 3) (w.heap.size + 1) N n
  two : W.heap[w.heap.size + 2]? = some (.cells #[.slice none 0 0, .int .u64 0, .int .i64 0] 26 (0, 0))
  box : W.heap[w.heap.size]? = some (.cells #[.int .u64 most] 31 (0, 0))
  below : Below w.heap.size w W
  big : w.heap.size + 3 ≤ W.heap.size
theorem Mid.step {w W W' : World} {most : Int} {N n : Nat} (h : Mid w W most N n) (hb : Below W.heap.size W W') : Mid w W' most N n :=
  ⟨h.wt.step hb, (hb.block _ (by have := h.big; omega)).trans h.two, (hb.block _ (by have := h.big; omega)).trans h.box, h.below.trans (hb.mono h.below.size), Nat.le_trans h.big hb.size⟩
theorem Mid.alloc {w W : World} {most : Int} {N n : Nat} (h : Mid w W most N n) (o : Obj) : Mid w (W.alloc o) most N n := h.step ((Below.refl _ _).alloc (Nat.le_refl _) o)
theorem Mid.go {w W W1 : World} {most : Int} {N n N' n' : Nat} (h : Mid w W most N n) (h1 : Wt W1 (w.heap.size + 3) (w.heap.size + 1) N' n') (k : Keep (w.heap.size + 1) 5 W W1) : Mid w W1 most N' n' :=
  ⟨h1, k.others _ _ 26 _ h.two (by decide) (by omega), k.others _ _ 31 _ h.box (by decide) (by omega), h.below.trans (k.below.mono (by omega)), Nat.le_trans h.big k.below.size⟩
theorem mid_new (w : World) (most : Int) : Mid w (((w.alloc (.cells #[.int .u64 most] 31)).alloc (.cells #[.slice none 0 0, .int .u64 0, .int .i64 0] 26)).alloc (.cells #[.slice none 0 0, .int .u64 0, .int .i64 0] 26)) most 0 0 := by
  generalize hw0 : w.alloc (.cells #[.int .u64 most] 31) = w0
  have e0 : w0.heap.size = w.heap.size + 1 := by rw [← hw0]; simp
  have b0 : w0.heap[w.heap.size]? = some (.cells #[.int .u64 most] 31 (0, 0)) := by rw [← hw0]; exact heap_alloc_new w _
  have bl : Below w.heap.size w w0 := by rw [← hw0]; exact (Below.refl _ _).alloc (Nat.le_refl _) _
  generalize hw1 : w0.alloc (.cells #[.slice none 0 0, .int .u64 0, .int .i64 0] 26) = w1
  have e1 : w1.heap.size = w.heap.size + 2 := by rw [← hw1]; simp [e0]
  have b1 : w1.heap[w.heap.size + 1]? = some (.cells #[.slice none 0 0, .int .u64 0, .int .i64 0] 26 (0, 0)) := by rw [← hw1, ← e0]; exact heap_alloc_new w0 _
  have c0 : w1.heap[w.heap.size]? = some (.cells #[.int .u64 most] 31 (0, 0)) := by rw [← hw1]; exact (Below.heap_alloc _ _ _ (by omega)).trans b0
  have bl1 : Below w.heap.size w w1 := by rw [← hw1]; exact bl.alloc (by omega) _
  refine ⟨⟨by decide, .slice none 0 0, by omega, ?_, World.ownsRow_nil _ _ _ _⟩, ?_, ?_, bl1.alloc (by omega) _, by simp; omega⟩
  · exact (Below.heap_alloc _ _ _ (by omega)).trans b1
  · have := heap_alloc_new w1 (.cells #[.slice none 0 0, .int .u64 0, .int .i64 0] 26)
    rw [e1] at this
    exact this
  · exact (Below.heap_alloc _ _ _ (by omega)).trans c0

end Go.Proofs.Ytlgnapapofgdfaa
