/- RUNS: how many bits a symbol has, how many lengths a step stands for, and whether there is such a step. -/
import Derived.Test.YtdjlkacmaflhfaaProg
import Derived.Test.YtdjlkacmaflhfaaRunM
import Derived.WalkKit
import Derived.WalkSpells
import Derived.WalkLawsBesides
import Derived.Below
import Derived.Deep.RegionHeld3
import Derived.Deep.QuietTactic
import Derived.Deep.DrawnRows
import Derived.BigQuiet
import Derived.Handy
import Derived.IntWalk
import Derived.Deep.DeepCutAuto
import Derived.LoopIn
import Derived.LoopNIn
import Derived.OwnWalk
import Derived.Deep.Cut
import Derived.LoopTactic
namespace Go.Proofs.Ytdjlkacmaflhfaa
set_option linter.unusedVariables false
open Go.RowKit
open Go.Proofs.Runs
attribute [local go_sem ↓] Go.wp_at_zero Go.wp_at_succ
namespace Run
theorem below_drewN {B : Nat} {a w : World} (h : Below B a w) (n : Nat) : Below B a (w.drewN n) := h.trans ⟨rfl, rfl, rfl, Nat.le_refl _, fun _ _ => rfl⟩
abbrev stepV (s b m : Int) : Value := .agg #[.int .i64 s, .int .i64 b, .int .i64 m]
theorem hid {p : Prop} (h : p) : Hid p := h
theorem ret_int {k : IntKind} {a b : Int} (h : a = b) : Ending.returned (.int k a) = .returned (.int k b) := by rw [h]
theorem ret_bool {a b : Bool} (h : a = b) : Ending.returned (.bool a) = .returned (.bool b) := by rw [h]

set_option maxRecDepth 100000 in
theorem bits (s : Int) (w : World) : Calls Try.prog 25 #[.int .i64 s] w fun e w' => e = .returned (.int .i64 (bitsI s)) ∧ w' = w := by
  rcases bits_le s with ⟨e, _, h0, h1⟩ | ⟨e, _, rfl⟩ | ⟨e, _, rfl⟩ | ⟨e, _, rfl⟩ | ⟨e, _, h⟩ <;> rw [e] <;> clear e
  · go_enter Try.func25, Try.ntmps25
    go_wp2_with fail
    go_ret
    exact ⟨rfl, rfl⟩
  · go_enter Try.func25, Try.ntmps25
    go_wp2_with fail
    go_ret
    exact ⟨rfl, rfl⟩
  · go_enter Try.func25, Try.ntmps25
    go_wp2_with fail
    go_ret
    exact ⟨rfl, rfl⟩
  · go_enter Try.func25, Try.ntmps25
    go_wp2_with fail
    go_ret
    exact ⟨rfl, rfl⟩
  · rcases h with h | h
    · have h1 : ¬ 0 ≤ s := by omega
      have d1 : decide (s = 16) = false := decide_eq_false (by omega)
      have d2 : decide (s = 17) = false := decide_eq_false (by omega)
      have d3 : decide (s = 18) = false := decide_eq_false (by omega)
      have e1 : (s == 16) = false := by simpa using d1
      have e2 : (s == 17) = false := by simpa using d2
      have e3 : (s == 18) = false := by simpa using d3
      go_enter Try.func25, Try.ntmps25
      go_wp2_with fail
      go_ret
      exact ⟨rfl, rfl⟩
    · have h0 : 0 ≤ s := by omega
      have h1 : ¬ s ≤ 15 := by omega
      have d1 : decide (s = 16) = false := decide_eq_false (by omega)
      have d2 : decide (s = 17) = false := decide_eq_false (by omega)
      have d3 : decide (s = 18) = false := decide_eq_false (by omega)
      have e1 : (s == 16) = false := by simpa using d1
      have e2 : (s == 17) = false := by simpa using d2
      have e3 : (s == 18) = false := by simpa using d3
      go_enter Try.func25, Try.ntmps25
      go_wp2_with fail
      go_ret
      exact ⟨rfl, rfl⟩
set_option maxRecDepth 100000 in
theorem least (s : Int) (w : World) : Calls Try.prog 36 #[.int .i64 s] w fun e w' => e = .returned (.int .i64 (leastI s)) ∧ w' = w := by
  by_cases h1 : s = 16
  · subst h1
    go_enter Try.func36, Try.ntmps36
    go_wp2_with fail
    go_ret
    exact ⟨rfl, rfl⟩
  · by_cases h2 : s = 17
    · subst h2
      go_enter Try.func36, Try.ntmps36
      go_wp2_with fail
      go_ret
      exact ⟨rfl, rfl⟩
    · by_cases h3 : s = 18
      · subst h3
        go_enter Try.func36, Try.ntmps36
        go_wp2_with fail
        go_ret
        exact ⟨rfl, rfl⟩
      · have e : leastI s = 1 := by unfold leastI; rw [if_neg (by omega), if_neg h3]
        rw [e]
        have e1 : (s == 16) = false := by simpa using h1
        have e2 : (s == 17) = false := by simpa using h2
        have e3 : (s == 18) = false := by simpa using h3
        go_enter Try.func36, Try.ntmps36
        go_wp2_with fail
        go_ret
        exact ⟨rfl, rfl⟩
set_option maxRecDepth 100000 in
theorem many (s b m : Int) (w : World) (h0 : 0 ≤ m) (h1 : m < 128) : Calls Try.prog 37 #[stepV s b m] w fun e w' => e = .returned (.int .i64 (manyI s m)) ∧ Below w.heap.size w w' := by
  have H := hid (fun W => least s W)
  have hm : manyI s m = leastI s + m := rfl
  rw [hm]
  have hl : 1 ≤ leastI s ∧ leastI s ≤ 11 := by have := many_cases s m; omega
  generalize leastI s = q at H hl ⊢
  obtain ⟨l0, l1⟩ := hl
  have e : IntKind.i64.wrap (q + m) = q + m := IntWalk.i64_in _ (by omega)
  go_enter Try.func37, Try.ntmps37
  go_upto_region 1 with fail
  go_quiet ((go_at_call 36; exact Calls.quiet_of_same (H.out _)))
  go_wp2_with fail
  go_ret
  exact ⟨rfl, below_drewN ((Below.refl _ _).alloc (Nat.le_refl _) _) _⟩
set_option maxRecDepth 100000 in
set_option maxHeartbeats 1000000 in
theorem right_yes (s b m : Int) (h : okS s b m) (w : World) : Calls Try.prog 38 #[stepV s b m] w fun e w' => e = .returned (.bool true) ∧ Below w.heap.size w w' := by
  have H := hid (fun W => bits s W)
  rcases h with ⟨h0, h1, rfl, rfl⟩ | ⟨rfl, rfl, h0, h1⟩ | ⟨rfl, rfl, h0, h1⟩ | ⟨rfl, rfl, h0, h1⟩
  · rw [show bitsI s = 0 from if_pos ⟨h0, h1⟩] at H
    clear h0 h1
    go_enter Try.func38, Try.ntmps38
    go_upto_region 1 with fail
    go_quiet ((go_at_call 25; exact Calls.quiet_of_same (H.out _)))
    go_wp2_with fail
    go_ret
    exact ⟨rfl, below_drewN ((Below.refl _ _).alloc (Nat.le_refl _) _) _⟩
  · rw [show bitsI 16 = 2 from rfl] at H
    go_enter Try.func38, Try.ntmps38
    go_upto_region 1 with fail
    go_quiet ((go_at_call 25; exact Calls.quiet_of_same (H.out _)))
    go_wp2_with fail
    go_ret
    exact ⟨rfl, below_drewN ((Below.refl _ _).alloc (Nat.le_refl _) _) _⟩
  · rw [show bitsI 17 = 3 from rfl] at H
    go_enter Try.func38, Try.ntmps38
    go_upto_region 1 with fail
    go_quiet ((go_at_call 25; exact Calls.quiet_of_same (H.out _)))
    go_wp2_with fail
    go_ret
    exact ⟨rfl, below_drewN ((Below.refl _ _).alloc (Nat.le_refl _) _) _⟩
  · rw [show bitsI 18 = 7 from rfl] at H
    go_enter Try.func38, Try.ntmps38
    go_upto_region 1 with fail
    go_quiet ((go_at_call 25; exact Calls.quiet_of_same (H.out _)))
    go_wp2_with fail
    go_ret
    exact ⟨rfl, below_drewN ((Below.refl _ _).alloc (Nat.le_refl _) _) _⟩
set_option maxRecDepth 100000 in
set_option maxHeartbeats 1000000 in
theorem right_no (s b m : Int) (h : ¬ okS s b m) (w : World) : Calls Try.prog 38 #[stepV s b m] w fun e w' => e = .returned (.bool false) ∧ Below w.heap.size w w' := by
  have H := hid (fun W => bits s W)
  by_cases hb : 0 ≤ b
  rotate_left
  · clear h
    have d0 : decide (0 ≤ b) = false := decide_eq_false hb
    go_enter Try.func38, Try.ntmps38
    go_upto_region 1 with fail
    go_quiet (fail)
    go_wp2_with fail
    go_ret
    exact ⟨rfl, below_drewN ((Below.refl _ _).alloc (Nat.le_refl _) _) _⟩
  have hN := not_ok h
  clear h
  by_cases he : b = bitsI s
  rotate_left
  · clear hN
    generalize bitsI s = q at H he
    have e1 : (b == q) = false := by simpa using he
    go_enter Try.func38, Try.ntmps38
    go_upto_region 1 with fail
    go_quiet ((go_at_call 25; exact Calls.quiet_of_same (H.out _)))
    go_wp2_with fail
    go_ret
    exact ⟨rfl, below_drewN ((Below.refl _ _).alloc (Nat.le_refl _) _) _⟩
  subst he
  by_cases hm : 0 ≤ m
  rotate_left
  · clear hN
    generalize bitsI s = q at H hb
    have d0 : decide (0 ≤ m) = false := decide_eq_false hm
    go_enter Try.func38, Try.ntmps38
    go_upto_region 1 with fail
    go_quiet ((go_at_call 25; exact Calls.quiet_of_same (H.out _)))
    go_wp2_with fail
    go_ret
    exact ⟨rfl, below_drewN ((Below.refl _ _).alloc (Nat.le_refl _) _) _⟩
  have hR : room s ≤ m := by omega
  clear hN
  rcases bits_le s with ⟨e, r, _⟩ | ⟨e, r, rfl⟩ | ⟨e, r, rfl⟩ | ⟨e, r, rfl⟩ | ⟨e, r, _⟩
  · rw [e] at H ⊢
    rw [r] at hR
    clear e r hb
    have d0 : decide (m < 1) = false := decide_eq_false (by omega)
    go_enter Try.func38, Try.ntmps38
    go_upto_region 1 with fail
    go_quiet ((go_at_call 25; exact Calls.quiet_of_same (H.out _)))
    go_wp2_with fail
    go_ret
    exact ⟨rfl, below_drewN ((Below.refl _ _).alloc (Nat.le_refl _) _) _⟩
  · rw [e] at H ⊢
    rw [r] at hR
    clear e r hb
    have d0 : decide (m < 4) = false := decide_eq_false (by omega)
    go_enter Try.func38, Try.ntmps38
    go_upto_region 1 with fail
    go_quiet ((go_at_call 25; exact Calls.quiet_of_same (H.out _)))
    go_wp2_with fail
    go_ret
    exact ⟨rfl, below_drewN ((Below.refl _ _).alloc (Nat.le_refl _) _) _⟩
  · rw [e] at H ⊢
    rw [r] at hR
    clear e r hb
    have d0 : decide (m < 8) = false := decide_eq_false (by omega)
    go_enter Try.func38, Try.ntmps38
    go_upto_region 1 with fail
    go_quiet ((go_at_call 25; exact Calls.quiet_of_same (H.out _)))
    go_wp2_with fail
    go_ret
    exact ⟨rfl, below_drewN ((Below.refl _ _).alloc (Nat.le_refl _) _) _⟩
  · rw [e] at H ⊢
    rw [r] at hR
    clear e r hb
    have d0 : decide (m < 128) = false := decide_eq_false (by omega)
    go_enter Try.func38, Try.ntmps38
    go_upto_region 1 with fail
    go_quiet ((go_at_call 25; exact Calls.quiet_of_same (H.out _)))
    go_wp2_with fail
    go_ret
    exact ⟨rfl, below_drewN ((Below.refl _ _).alloc (Nat.le_refl _) _) _⟩
  · omega
end Run
end Go.Proofs.Ytdjlkacmaflhfaa
