/- WALKS: the first code of each length. -/
import Derived.Test.YtlfohihmkfphhaaHufU
namespace Go.Proofs.Ytlfohihmkfphhaa
set_option linter.unusedVariables false
open Go.RowKit
open Go.Proofs.Huf
namespace Huff

/-- The first codes of the lengths below n. -/
def fV (g : Nat → Nat) (N n : Nat) : Array Value := rowV (fun i => .int .u32 ((if i < n then fT g N i else 0 : Nat) : Int)) 16
theorem fV_start (g : Nat → Nat) (N : Nat) : fV g N 1 = #[.int .u32 0, .int .u32 0, .int .u32 0, .int .u32 0, .int .u32 0, .int .u32 0, .int .u32 0, .int .u32 0, .int .u32 0, .int .u32 0, .int .u32 0, .int .u32 0, .int .u32 0, .int .u32 0, .int .u32 0, .int .u32 0] := rfl
theorem fV_at (g : Nat → Nat) (N n i : Nat) (h : i < 16) : (fV g N n)[i]? = some (.int .u32 ((if i < n then fT g N i else 0 : Nat) : Int)) := rowV_at _ _ _ h
theorem fV_next (g : Nat → Nat) (N n : Nat) : (fV g N n).setIfInBounds n (.int .u32 ((fT g N n : Nat) : Int)) = fV g N (n + 1) := by
  unfold fV
  rw [rowV_set]
  apply rowV_congr
  intro i hi
  by_cases e : i = n
  · subst e
    rw [if_pos rfl, if_pos (Nat.lt_succ_self _)]
  · rw [if_neg e]
    by_cases c : i < n
    · rw [if_pos c, if_pos (by omega)]
    · rw [if_neg c, if_neg (by omega)]
theorem fV_one (g : Nat → Nat) (N n : Nat) : (fV g N n).all (·.oneCell') = true := rowV_one _ _ (fun _ _ => rfl)
theorem fV_size (g : Nat → Nat) (N n : Nat) : (fV g N n).size = 16 := rowV_size _ _

end Huff
end Go.Proofs.Ytlfohihmkfphhaa
