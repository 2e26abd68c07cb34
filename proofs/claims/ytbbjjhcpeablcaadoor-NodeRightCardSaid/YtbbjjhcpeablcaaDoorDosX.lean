/- WALKS over parts of times: whether they fit. -/
import Derived.Test.YtbbjjhcpeablcaaDoorDosW
import Derived.Deep.QuietTactic
namespace Go.Proofs.YtbbjjhcpeablcaaDoor
set_option linter.unusedVariables false
open Go.RowKit
open Go.Proofs.Dos
attribute [local go_sem ↓] Go.wp_at_zero Go.wp_at_succ

/-- A time's parts, as a value. -/
def tV (x : T) : Value := .agg #[.int .i64 x.year, .int .i64 x.month, .int .i64 x.day, .int .i64 x.hour, .int .i64 x.minute, .int .i64 x.second]

/-- All parts are ints. -/
structure Ints (x : T) : Prop where
  y0 : -9223372036854775808 ≤ x.year
  y1 : x.year ≤ 9223372036854775807
  m0 : -9223372036854775808 ≤ x.month
  m1 : x.month ≤ 9223372036854775807
  d0 : -9223372036854775808 ≤ x.day
  d1 : x.day ≤ 9223372036854775807
  h0 : -9223372036854775808 ≤ x.hour
  h1 : x.hour ≤ 9223372036854775807
  n0 : -9223372036854775808 ≤ x.minute
  n1 : x.minute ≤ 9223372036854775807
  s0 : -9223372036854775808 ≤ x.second
  s1 : x.second ≤ 9223372036854775807

theorem inB_iff {n e : Int} : inB n e = true ↔ 0 ≤ n ∧ n < e := by unfold inB; simp

theorem Tab.drewN {w : World} (h : Tab w) (n : Nat) : Tab (w.drewN n) := ⟨h.lt, h.cells⟩

theorem below_drewN {B : Nat} {a w : World} (h : Below B a w) (n : Nat) : Below B a (w.drewN n) := ⟨h.os, h.tape, h.output, h.size, h.block⟩

/-- What fits, as a bool. -/
def fitsB (x : T) : Bool := decide (Fits x)

theorem fits_of (x : T) (b : Bool) (h : b = (decide (1 ≤ x.day) && decide (x.day ≤ daysI x.year x.month) && inB x.hour 24 && inB x.minute 60 && inB x.second 60)) : b = fitsB x := by
  rw [h]; unfold fitsB inB
  have e : (decide (1 ≤ x.day) && decide (x.day ≤ daysI x.year x.month) && decide (0 ≤ x.hour ∧ x.hour < 24) && decide (0 ≤ x.minute ∧ x.minute < 60) && decide (0 ≤ x.second ∧ x.second < 60)) = true ↔ Fits x := by
    simp only [Bool.and_eq_true, decide_eq_true_eq]
    constructor
    · rintro ⟨⟨⟨⟨a, b⟩, c⟩, d⟩, e⟩; exact ⟨a, b, c.1, c.2, d.1, d.2, e.1, e.2⟩
    · rintro ⟨a, b, c1, c2, d1, d2, e1, e2⟩; exact ⟨⟨⟨⟨a, b⟩, c1, c2⟩, d1, d2⟩, e1, e2⟩
  exact Bool.eq_iff_iff.2 (e.trans decide_eq_true_iff.symm)

set_option maxRecDepth 100000 in
set_option maxHeartbeats 2000000 in
theorem fits (x : T) (w : World) (hT : Tab w) (hx : Ints x) :
    Calls Tryd.prog 19 #[tV x] w fun e w' => e = .returned (.bool (fitsB x)) ∧ Below w.heap.size w w' := by
  have hF := fits_of x
  obtain ⟨y0, y1, m0, m1, d0, d1, _, _, _, _, _, _⟩ := hx
  obtain ⟨y, m, d, h, n, s⟩ := x
  simp only [tV] at *
  have HF := hid hF; clear hF
  have hb := daysI_bd y m
  have HD := hid (fun W (hW : Tab W) => days y m W hW y0 y1 m0 m1)
  have HTT := hid (hT.below ((Below.refl w.heap.size w).alloc (Nat.le_refl _) (.cells #[.int .i64 y, .int .i64 m, .int .i64 d, .int .i64 h, .int .i64 n, .int .i64 s] 40)) hT.lt (by simp))
  generalize daysI y m = D at hb HF HD
  obtain ⟨b0, b1⟩ := hb
  by_cases a : 1 ≤ d
  · by_cases c : d ≤ D
    · cases k1 : inB h 24
      · have HW := hid (HF.out false (by rw [k1]; simp))
        clear HF
        go_enter Tryd.func19, Tryd.ntmps19
        go_wp2_with fail
        go_quiet ((first
          | (go_at_call 35; exact Calls.quiet_of_same ((HD.out _ (by exact HTT.out.drewN _)).mono fun e w' h => ⟨h.1, h.2.symm⟩))
          | (go_at_call 34; exact Calls.quiet_of_same ((below_ _ _ _ (by assumption) _).mono fun e w' h => ⟨h.1, h.2.symm⟩))))
        go_wp2_with fail
        go_ret
        exact ⟨ret_bool HW.out, below_drewN ((Below.refl _ _).alloc (Nat.le_refl _) _) _⟩
      · cases k2 : inB n 60
        · have HW := hid (HF.out false (by rw [k2]; simp))
          clear HF
          go_enter Tryd.func19, Tryd.ntmps19
          go_wp2_with fail
          go_quiet ((first
            | (go_at_call 35; exact Calls.quiet_of_same ((HD.out _ (by exact HTT.out.drewN _)).mono fun e w' h => ⟨h.1, h.2.symm⟩))
            | (go_at_call 34; exact Calls.quiet_of_same ((below_ _ _ _ (by assumption) _).mono fun e w' h => ⟨h.1, h.2.symm⟩))))
          go_wp2_with fail
          go_ret
          exact ⟨ret_bool HW.out, below_drewN ((Below.refl _ _).alloc (Nat.le_refl _) _) _⟩
        · cases k3 : inB s 60
          · have HW := hid (HF.out false (by rw [k3]; simp))
            clear HF
            go_enter Tryd.func19, Tryd.ntmps19
            go_wp2_with fail
            go_quiet ((first
              | (go_at_call 35; exact Calls.quiet_of_same ((HD.out _ (by exact HTT.out.drewN _)).mono fun e w' h => ⟨h.1, h.2.symm⟩))
              | (go_at_call 34; exact Calls.quiet_of_same ((below_ _ _ _ (by assumption) _).mono fun e w' h => ⟨h.1, h.2.symm⟩))))
            go_wp2_with fail
            go_ret
            exact ⟨ret_bool HW.out, below_drewN ((Below.refl _ _).alloc (Nat.le_refl _) _) _⟩
          · have HW := hid (HF.out true (by rw [k1, k2, k3]; simp [a, c]))
            clear HF
            go_enter Tryd.func19, Tryd.ntmps19
            go_wp2_with fail
            go_quiet ((first
              | (go_at_call 35; exact Calls.quiet_of_same ((HD.out _ (by exact HTT.out.drewN _)).mono fun e w' h => ⟨h.1, h.2.symm⟩))
              | (go_at_call 34; exact Calls.quiet_of_same ((below_ _ _ _ (by assumption) _).mono fun e w' h => ⟨h.1, h.2.symm⟩))))
            go_wp2_with fail
            go_ret
            exact ⟨ret_bool HW.out, below_drewN ((Below.refl _ _).alloc (Nat.le_refl _) _) _⟩
    · have HW := hid (HF.out false (by simp [c]))
      clear HF
      go_enter Tryd.func19, Tryd.ntmps19
      go_wp2_with fail
      have fa : ¬ d ≤ D := by omega
      go_quiet ((first
        | (go_at_call 35; exact Calls.quiet_of_same ((HD.out _ (by exact HTT.out.drewN _)).mono fun e w' h => ⟨h.1, h.2.symm⟩))
        | (go_at_call 34; exact Calls.quiet_of_same ((below_ _ _ _ (by assumption) _).mono fun e w' h => ⟨h.1, h.2.symm⟩))))
      go_wp2_with fail
      go_ret
      exact ⟨ret_bool HW.out, below_drewN ((Below.refl _ _).alloc (Nat.le_refl _) _) _⟩
  · have HW := hid (HF.out false (by simp [a]))
    clear HF
    go_enter Tryd.func19, Tryd.ntmps19
    go_wp2_with fail
    have fa : ¬ 1 ≤ d := by omega
    go_quiet ((first
      | (go_at_call 35; exact Calls.quiet_of_same ((HD.out _ (by exact HTT.out.drewN _)).mono fun e w' h => ⟨h.1, h.2.symm⟩))
      | (go_at_call 34; exact Calls.quiet_of_same ((below_ _ _ _ (by assumption) _).mono fun e w' h => ⟨h.1, h.2.symm⟩))))
    go_wp2_with fail
    go_ret
    exact ⟨ret_bool HW.out, below_drewN ((Below.refl _ _).alloc (Nat.le_refl _) _) _⟩
end Go.Proofs.YtbbjjhcpeablcaaDoor
