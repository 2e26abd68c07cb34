/- LZ: keys; chains of places, while they are made. -/
import Derived.Test.YtlhgkemiakekoaaLzP
namespace Go.Proofs.Ytlhgkemiakekoaa
set_option linter.unusedVariables false
open Go.RowKit Go.Maps
attribute [local go_sem ↓] Go.wp_at_zero Go.wp_at_succ
namespace Lz
/-- The key of a place. -/
abbrev keyP (s : ByteArray) (p : Nat) : Value := keyV (byteT s p : Nat) (byteT s (p + 1) : Nat) (byteT s (p + 2) : Nat)
set_option maxRecDepth 100000 in
set_option maxHeartbeats 2000000 in
theorem keyAt_yes (s : ByteArray) (p : Nat) (G : Nat) (w : World) (hs : s.size ≤ 1000000) (hp : p + 3 ≤ s.size) (hGl : G < w.heap.size) (hG : w.cell? ⟨G, 0, none⟩ = some (.string s)) :
    Calls Try.prog 25 #[.pointer (some ⟨G, 0, none⟩), .int .i64 p] w fun e w' => e = .returned (.tuple #[keyP s p, .bool true]) ∧ Below w.heap.size w w' := by
  have hp0 : (p : Int) + 3 ≤ (s.size : Int) := by omega
  have hs' : (s.size : Int) ≤ 1000000 := by omega
  have c1 : (w.alloc (.cells #[.int .u8 0, .int .u8 0, .int .u8 0] 57)).cell? ⟨G, 0, none⟩ = some (.string s) := (((Below.refl _ w).alloc (Nat.le_refl _) _).cell (p := ⟨G, 0, none⟩) hGl).trans hG
  have w0 : IntKind.i64.wrap ((s.size : Int) - (p : Int)) = (s.size : Int) - (p : Int) := IntWalk.i64_in _ (by omega)
  have w1 : IntKind.i64.wrap ((p : Int) + 1) = ((p + 1 : Nat) : Int) := by rw [IntWalk.i64_in _ (by omega)]; omega
  have w2 : IntKind.i64.wrap ((p : Int) + 2) = ((p + 2 : Nat) : Int) := by rw [IntWalk.i64_in _ (by omega)]; omega
  have q0 : ¬ (s.size : Int) - (p : Int) < 3 := by omega
  have i0 : (p : Int) < (s.size : Int) := by omega
  obtain ⟨P1, hP1⟩ : ∃ P1, P1 = p + 1 := ⟨_, rfl⟩
  obtain ⟨P2, hP2⟩ : ∃ P2, P2 = p + 2 := ⟨_, rfl⟩
  have i1 : (P1 : Int) < (s.size : Int) := by omega
  have i2 : (P2 : Int) < (s.size : Int) := by omega
  have j0 : p < s.size := by omega
  have j1 : P1 < s.size := by omega
  have j2 : P2 < s.size := by omega
  have b0 := byteT_eq s p j0
  have b1 := byteT_eq s P1 j1
  have b2 := byteT_eq s P2 j2
  have HE := hid (show keyV (byteT s p : Nat) (byteT s P1 : Nat) (byteT s P2 : Nat) = keyP s p by rw [hP1, hP2])
  simp only [← hP1, ← hP2] at w1 w2
  clear hs hG hP1 hP2 hp hp0
  generalize byteT s p = x0 at *
  generalize byteT s P1 = x1 at *
  generalize byteT s P2 = x2 at *
  go_enter Try.func25, Try.ntmps25
  go_upto_region 3 with fail
  go_region
  all_goals go_wp2
  all_goals go_returns
  all_goals exact ⟨by rw [← HE.out], below_drewN ((Below.refl _ _).alloc (Nat.le_refl _) _) 1⟩
end Lz
end Go.Proofs.Ytlhgkemiakekoaa
