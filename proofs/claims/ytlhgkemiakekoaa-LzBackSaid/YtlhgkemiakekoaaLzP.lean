/- LZ: the map of keys. -/
import Derived.Test.YtlhgkemiakekoaaLzN
import Derived.Test.YtlhgkemiakekoaaEnd
import Derived.Maps.Own
import Derived.Maps.OwnOps
import Derived.Maps.Views
import Derived.DeepKeys4
namespace Go.Proofs.Ytlhgkemiakekoaa
set_option linter.unusedVariables false
open Go.RowKit Go.Maps
attribute [local go_sem ↓] Go.wp_at_zero Go.wp_at_succ
namespace Lz
theorem und57 : Try.prog.underlying 57 = some (.array 3 5) := by kernel_rfl
theorem und49 : Try.prog.underlying 49 = some (.map 57 3) := by kernel_rfl
theorem und5 : Try.prog.underlying 5 = some (.int .u8) := by kernel_rfl
theorem und3i : Try.prog.underlying 3 = some (.int .i64) := by kernel_rfl
theorem klaw : Keyed Try.prog 57 := Keyed.of_law (deep_law_laid laidOut (m := 2) (by omega) (of_decide_eq_true (by kernel_rfl)) (by kernel_rfl) (by kernel_rfl))
theorem zeroE (w : World) : (zeroValue 3).run Try.prog w = .ok (.int .i64 0) w := by kernel_rfl
theorem keyT : Try.prog.keyType 57 = true := by kernel_rfl
theorem cells57 : Try.prog.cellsOf 57 = 3 := by kernel_rfl
theorem cells5 : Try.prog.cellsOf 5 = 1 := by kernel_rfl
theorem key_is (a b c : Int) (ha : 0 ≤ a ∧ a < 256) (hb : 0 ≤ b ∧ b < 256) (hc : 0 ≤ c ∧ c < 256) : ∃ l, keyOf Try.prog 57 (keyV a b c) = some l := by
  have hf : (keyV a b c).formed Try.prog 57 = true := by
    unfold Value.formed
    simp [cells57]
  have h1 : ∀ x : Int, 0 ≤ x ∧ x < 256 → (Lit.int .u8 x).wf = true := fun x h => by
    simp [Lit.wf, IntKind.min, IntKind.max, IntKind.signed, IntKind.bits]; omega
  unfold keyOf
  rw [und57]
  simp only [keyT, hf, Bool.and_self, if_true]
  obtain ⟨n, hn⟩ : ∃ n, Try.prog.types.size = n + 1 := ⟨Try.prog.types.size - 1, by kernel_rfl⟩
  rw [hn, show (keyV a b c).cells.toList = [.int .u8 a, .int .u8 b, .int .u8 c] from rfl]
  simp [Program.keyLits, cells57, cells5, h1 a ha, h1 b hb, h1 c hc, List.range_succ]
end Lz
end Go.Proofs.Ytlhgkemiakekoaa
