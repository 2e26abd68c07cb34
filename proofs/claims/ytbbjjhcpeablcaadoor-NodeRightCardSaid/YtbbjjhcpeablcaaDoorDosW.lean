/- WALKS over days, years and parts of times: the document's own, and the program's. -/
import Derived.Test.YtbbjjhcpeablcaaDoorProg
import Derived.Test.YtbbjjhcpeablcaaDoorDosM
import Derived.WalkKit
import Derived.WalkSpells
import Derived.WalkLawsBesides
import Derived.Laws.Rows
import Derived.Laws.IdiomStrings
import Derived.Laws.Bits64b
import Derived.Laws.BitsAllLaws
import Derived.Deep.DeepCutAuto
import Derived.Deep.DrawnRows
namespace Go.Proofs.YtbbjjhcpeablcaaDoor
set_option linter.unusedVariables false
open Go.RowKit
open Go.Proofs.Dos
attribute [local go_sem ↓] Go.wp_at_zero Go.wp_at_succ

theorem hid {p : Prop} (h : p) : Hid p := h
theorem val_int {k : IntKind} {a b : Int} (h : a = b) : Value.int k a = .int k b := by rw [h]
theorem ret_int {k : IntKind} {a b : Int} (h : a = b) : Ending.returned (.int k a) = .returned (.int k b) := by rw [h]
theorem ret_bool {a b : Bool} (h : a = b) : Ending.returned (.bool a) = .returned (.bool b) := by rw [h]
theorem val_str {a b : ByteArray} (h : a = b) : Value.string a = .string b := by rw [h]
theorem ret_str {a b : ByteArray} (h : a = b) : Ending.returned (.string a) = .returned (.string b) := by rw [h]

/-- The months' days, as the table has them. -/
def md : Nat → Int
  | 0 => 31 | 1 => 28 | 2 => 31 | 3 => 30 | 4 => 31 | 5 => 30 | 6 => 31 | 7 => 31 | 8 => 30 | 9 => 31 | 10 => 30 | 11 => 31
  | _ => 0

/-- The table lies in the world. -/
structure Tab (w : World) : Prop where
  lt : 0 < w.heap.size
  cells : ∀ i : Nat, i < 12 → w.cell? ⟨0, i, none⟩ = some (.int .i64 (md i))

theorem Tab.below {w w' : World} {n : Nat} (h : Tab w) (hB : Below n w w') (hn : 0 < n) (hl : w.heap.size ≤ w'.heap.size) : Tab w' :=
  ⟨Nat.lt_of_lt_of_le h.lt hl, fun i hi => (hB.cell (p := ⟨0, i, none⟩) hn).trans (h.cells i hi)⟩


theorem tmod4 (y : Int) : y.tmod 4 = 0 ↔ y % 4 = 0 := by
  rw [← Int.dvd_iff_tmod_eq_zero, ← Int.dvd_iff_emod_eq_zero]

def leapB (y : Int) : Bool := decide (y % 4 = 0 ∧ y ≠ 2100)

theorem leap_no {y : Int} (h : ¬ y.tmod 4 = 0) : false = leapB y := by
  rw [tmod4] at h; unfold leapB; simp [h]
theorem leap_yes {y : Int} (h : y.tmod 4 = 0) : (y != 2100) = leapB y := by
  rw [tmod4] at h; unfold leapB; by_cases k : y = 2100 <;> simp [h, k]

theorem isLeap (y : Int) (w : World) (h0 : -9223372036854775808 ≤ y) (h1 : y ≤ 9223372036854775807) :
    Calls Tryd.prog 49 #[.int .i64 y] w fun e w' => e = .returned (.bool (leapB y)) ∧ w = w' := by
  go_enter Tryd.func49, Tryd.ntmps49
  go_wp2
  · go_ret
    exact ⟨ret_bool (leap_yes (by assumption)), rfl⟩
  · go_ret
    exact ⟨ret_bool (leap_no (by assumption)), rfl⟩

theorem daysI_no {y m : Int} (h : y < 1980 ∨ 2107 < y ∨ m < 1 ∨ 12 < m) : 0 = daysI y m := by unfold daysI; rw [if_pos h]

set_option maxRecDepth 100000 in
theorem days (y m : Int) (w : World) (hT : Tab w) (h0 : -9223372036854775808 ≤ y) (h1 : y ≤ 9223372036854775807) (m0 : -9223372036854775808 ≤ m) (m1 : m ≤ 9223372036854775807) :
    Calls Tryd.prog 35 #[.int .i64 y, .int .i64 m] w fun e w' => e = .returned (.int .i64 (daysI y m)) ∧ w = w' := by
  by_cases a : y < 1980
  · go_enter Tryd.func35, Tryd.ntmps35
    go_wp2_with fail
    go_ret
    exact ⟨ret_int (daysI_no (by omega)), rfl⟩
  by_cases b : 2107 < y
  · go_enter Tryd.func35, Tryd.ntmps35
    go_wp2_with fail
    go_ret
    exact ⟨ret_int (daysI_no (by omega)), rfl⟩
  by_cases c : m < 1
  · go_enter Tryd.func35, Tryd.ntmps35
    go_wp2_with fail
    go_ret
    exact ⟨ret_int (daysI_no (by omega)), rfl⟩
  by_cases d : 12 < m
  · go_enter Tryd.func35, Tryd.ntmps35
    go_wp2_with fail
    go_ret
    exact ⟨ret_int (daysI_no (by omega)), rfl⟩
  have hr : ¬ (y < 1980 ∨ 2107 < y ∨ m < 1 ∨ 12 < m) := by omega
  by_cases h2 : m = 2
  · subst h2
    have hc := hT.cells 1 (by decide)
    cases hl : leapB y
    · have HD := hid (show 28 = daysI y 2 by unfold daysI; rw [if_neg hr, if_pos rfl, if_neg (by simpa [leapB] using hl)])
      go_enter Tryd.func35, Tryd.ntmps35
      go_wp2_with (go_at_call 49; refine (isLeap y _ h0 h1).mono ?_; rintro e w' ⟨rfl, rfl⟩)
      go_ret
      exact ⟨ret_int HD.out, rfl⟩
    · have HD := hid (show 29 = daysI y 2 by unfold daysI; rw [if_neg hr, if_pos rfl, if_pos (by simpa [leapB] using hl)])
      go_enter Tryd.func35, Tryd.ntmps35
      go_wp2_with (go_at_call 49; refine (isLeap y _ h0 h1).mono ?_; rintro e w' ⟨rfl, rfl⟩)
      go_ret
      exact ⟨ret_int HD.out, rfl⟩
  have hm : m = 1 ∨ m = 3 ∨ m = 4 ∨ m = 5 ∨ m = 6 ∨ m = 7 ∨ m = 8 ∨ m = 9 ∨ m = 10 ∨ m = 11 ∨ m = 12 := by omega
  have HR := hid hr
  clear m0 m1 h2 hr c d
  have hA : ∀ k : Nat, k < 12 → k ≠ 1 → md k = daysI y (k + 1) := by
    intro k hk h1
    have : k = 0 ∨ k = 2 ∨ k = 3 ∨ k = 4 ∨ k = 5 ∨ k = 6 ∨ k = 7 ∨ k = 8 ∨ k = 9 ∨ k = 10 ∨ k = 11 := by omega
    unfold daysI
    rw [if_neg (by omega)]
    rcases this with rfl | rfl | rfl | rfl | rfl | rfl | rfl | rfl | rfl | rfl | rfl <;> rfl
  rcases hm with rfl | rfl | rfl | rfl | rfl | rfl | rfl | rfl | rfl | rfl | rfl
  · have hc := hT.cells 0 (by decide)
    have HA := hid (hA 0 (by decide) (by decide))
    clear hA
    go_enter Tryd.func35, Tryd.ntmps35
    go_wp2_with fail
    go_ret
    exact ⟨ret_int HA.out, rfl⟩
  · have hc := hT.cells 2 (by decide)
    have HA := hid (hA 2 (by decide) (by decide))
    clear hA
    go_enter Tryd.func35, Tryd.ntmps35
    go_wp2_with fail
    go_ret
    exact ⟨ret_int HA.out, rfl⟩
  · have hc := hT.cells 3 (by decide)
    have HA := hid (hA 3 (by decide) (by decide))
    clear hA
    go_enter Tryd.func35, Tryd.ntmps35
    go_wp2_with fail
    go_ret
    exact ⟨ret_int HA.out, rfl⟩
  · have hc := hT.cells 4 (by decide)
    have HA := hid (hA 4 (by decide) (by decide))
    clear hA
    go_enter Tryd.func35, Tryd.ntmps35
    go_wp2_with fail
    go_ret
    exact ⟨ret_int HA.out, rfl⟩
  · have hc := hT.cells 5 (by decide)
    have HA := hid (hA 5 (by decide) (by decide))
    clear hA
    go_enter Tryd.func35, Tryd.ntmps35
    go_wp2_with fail
    go_ret
    exact ⟨ret_int HA.out, rfl⟩
  · have hc := hT.cells 6 (by decide)
    have HA := hid (hA 6 (by decide) (by decide))
    clear hA
    go_enter Tryd.func35, Tryd.ntmps35
    go_wp2_with fail
    go_ret
    exact ⟨ret_int HA.out, rfl⟩
  · have hc := hT.cells 7 (by decide)
    have HA := hid (hA 7 (by decide) (by decide))
    clear hA
    go_enter Tryd.func35, Tryd.ntmps35
    go_wp2_with fail
    go_ret
    exact ⟨ret_int HA.out, rfl⟩
  · have hc := hT.cells 8 (by decide)
    have HA := hid (hA 8 (by decide) (by decide))
    clear hA
    go_enter Tryd.func35, Tryd.ntmps35
    go_wp2_with fail
    go_ret
    exact ⟨ret_int HA.out, rfl⟩
  · have hc := hT.cells 9 (by decide)
    have HA := hid (hA 9 (by decide) (by decide))
    clear hA
    go_enter Tryd.func35, Tryd.ntmps35
    go_wp2_with fail
    go_ret
    exact ⟨ret_int HA.out, rfl⟩
  · have hc := hT.cells 10 (by decide)
    have HA := hid (hA 10 (by decide) (by decide))
    clear hA
    go_enter Tryd.func35, Tryd.ntmps35
    go_wp2_with fail
    go_ret
    exact ⟨ret_int HA.out, rfl⟩
  · have hc := hT.cells 11 (by decide)
    have HA := hid (hA 11 (by decide) (by decide))
    clear hA
    go_enter Tryd.func35, Tryd.ntmps35
    go_wp2_with fail
    go_ret
    exact ⟨ret_int HA.out, rfl⟩

set_option maxRecDepth 100000 in
/-- The document's own days. -/
theorem refDays (y m : Int) (w : World) (h0 : -9223372036854775808 ≤ y) (h1 : y ≤ 9223372036854775807) (m0 : -9223372036854775808 ≤ m) (m1 : m ≤ 9223372036854775807) :
    Calls Tryd.prog 37 #[.int .i64 y, .int .i64 m] w fun e w' => e = .returned (.int .i64 (daysI y m)) ∧ w = w' := by
  by_cases a : y < 1980
  · go_enter Tryd.func37, Tryd.ntmps37
    go_wp2_with fail
    go_ret
    exact ⟨ret_int (daysI_no (by omega)), rfl⟩
  by_cases b : 2107 < y
  · go_enter Tryd.func37, Tryd.ntmps37
    go_wp2_with fail
    go_ret
    exact ⟨ret_int (daysI_no (by omega)), rfl⟩
  by_cases c : m < 1 ∨ 12 < m
  · have HN := hid (daysI_no (y := y) (m := m) (by omega))
    have n1 : ¬ m = 1 := by omega
    have n2 : ¬ m = 2 := by omega
    have n3 : ¬ m = 3 := by omega
    have n4 : ¬ m = 4 := by omega
    have n5 : ¬ m = 5 := by omega
    have n6 : ¬ m = 6 := by omega
    have n7 : ¬ m = 7 := by omega
    have n8 : ¬ m = 8 := by omega
    have n9 : ¬ m = 9 := by omega
    have n10 : ¬ m = 10 := by omega
    have n11 : ¬ m = 11 := by omega
    have n12 : ¬ m = 12 := by omega
    clear c
    go_enter Tryd.func37, Tryd.ntmps37
    go_wp2_with fail
    go_ret
    exact ⟨ret_int HN.out, rfl⟩
  have hr : ¬ (y < 1980 ∨ 2107 < y ∨ m < 1 ∨ 12 < m) := by omega
  by_cases h2 : m = 2
  · subst h2
    have HR := hid hr
    clear hr c
    by_cases h4 : y % 4 = 0
    · by_cases h5 : y = 2100
      · have HD := hid (show 28 = daysI y 2 by unfold daysI; rw [if_neg HR.out, if_pos rfl, if_neg (by omega)])
        clear a b
        subst h5
        go_enter Tryd.func37, Tryd.ntmps37
        go_wp2_with fail
        go_ret
        exact ⟨ret_int HD.out, rfl⟩
      · have HD := hid (show 29 = daysI y 2 by unfold daysI; rw [if_neg HR.out, if_pos rfl, if_pos ⟨h4, h5⟩])
        go_enter Tryd.func37, Tryd.ntmps37
        go_wp2_with fail
        go_ret
        exact ⟨ret_int HD.out, rfl⟩
    · have HD := hid (show 28 = daysI y 2 by unfold daysI; rw [if_neg HR.out, if_pos rfl, if_neg (fun h => h4 h.1)])
      go_enter Tryd.func37, Tryd.ntmps37
      go_wp2_with fail
      go_ret
      exact ⟨ret_int HD.out, rfl⟩
  have hm : m = 1 ∨ m = 3 ∨ m = 4 ∨ m = 5 ∨ m = 6 ∨ m = 7 ∨ m = 8 ∨ m = 9 ∨ m = 10 ∨ m = 11 ∨ m = 12 := by omega
  have HR := hid hr
  clear m0 m1 h2 hr c
  have hA : ∀ k : Nat, k < 12 → k ≠ 1 → md k = daysI y (k + 1) := by
    intro k hk h1
    have hr := HR.out
    have : k = 0 ∨ k = 2 ∨ k = 3 ∨ k = 4 ∨ k = 5 ∨ k = 6 ∨ k = 7 ∨ k = 8 ∨ k = 9 ∨ k = 10 ∨ k = 11 := by omega
    unfold daysI
    rw [if_neg (by omega)]
    rcases this with rfl | rfl | rfl | rfl | rfl | rfl | rfl | rfl | rfl | rfl | rfl <;> rfl
  rcases hm with rfl | rfl | rfl | rfl | rfl | rfl | rfl | rfl | rfl | rfl | rfl
  · have HA := hid (hA 0 (by decide) (by decide))
    clear hA
    go_enter Tryd.func37, Tryd.ntmps37
    go_wp2_with fail
    go_ret
    exact ⟨ret_int HA.out, rfl⟩
  · have HA := hid (hA 2 (by decide) (by decide))
    clear hA
    go_enter Tryd.func37, Tryd.ntmps37
    go_wp2_with fail
    go_ret
    exact ⟨ret_int HA.out, rfl⟩
  · have HA := hid (hA 3 (by decide) (by decide))
    clear hA
    go_enter Tryd.func37, Tryd.ntmps37
    go_wp2_with fail
    go_ret
    exact ⟨ret_int HA.out, rfl⟩
  · have HA := hid (hA 4 (by decide) (by decide))
    clear hA
    go_enter Tryd.func37, Tryd.ntmps37
    go_wp2_with fail
    go_ret
    exact ⟨ret_int HA.out, rfl⟩
  · have HA := hid (hA 5 (by decide) (by decide))
    clear hA
    go_enter Tryd.func37, Tryd.ntmps37
    go_wp2_with fail
    go_ret
    exact ⟨ret_int HA.out, rfl⟩
  · have HA := hid (hA 6 (by decide) (by decide))
    clear hA
    go_enter Tryd.func37, Tryd.ntmps37
    go_wp2_with fail
    go_ret
    exact ⟨ret_int HA.out, rfl⟩
  · have HA := hid (hA 7 (by decide) (by decide))
    clear hA
    go_enter Tryd.func37, Tryd.ntmps37
    go_wp2_with fail
    go_ret
    exact ⟨ret_int HA.out, rfl⟩
  · have HA := hid (hA 8 (by decide) (by decide))
    clear hA
    go_enter Tryd.func37, Tryd.ntmps37
    go_wp2_with fail
    go_ret
    exact ⟨ret_int HA.out, rfl⟩
  · have HA := hid (hA 9 (by decide) (by decide))
    clear hA
    go_enter Tryd.func37, Tryd.ntmps37
    go_wp2_with fail
    go_ret
    exact ⟨ret_int HA.out, rfl⟩
  · have HA := hid (hA 10 (by decide) (by decide))
    clear hA
    go_enter Tryd.func37, Tryd.ntmps37
    go_wp2_with fail
    go_ret
    exact ⟨ret_int HA.out, rfl⟩
  · have HA := hid (hA 11 (by decide) (by decide))
    clear hA
    go_enter Tryd.func37, Tryd.ntmps37
    go_wp2_with fail
    go_ret
    exact ⟨ret_int HA.out, rfl⟩

/-- Is a number from 0 up to an end? -/
def inB (n e : Int) : Bool := decide (0 ≤ n ∧ n < e)

theorem below_ (n e : Int) (b : Bool) (h : inB n e = b) (w : World) :
    Calls Tryd.prog 34 #[.int .i64 n, .int .i64 e] w fun x w' => x = .returned (.bool b) ∧ w = w' := by
  have H := hid h
  clear h
  by_cases a : 0 ≤ n
  · by_cases c : n < e
    · have HB := hid (show true = b by rw [← H.out]; unfold inB; simp [a, c])
      go_enter Tryd.func34, Tryd.ntmps34
      go_wp2_with fail
      go_ret
      exact ⟨ret_bool HB.out, rfl⟩
    · have HB := hid (show false = b by rw [← H.out]; unfold inB; simp [c])
      go_enter Tryd.func34, Tryd.ntmps34
      go_wp2_with fail
      go_ret
      exact ⟨ret_bool HB.out, rfl⟩
  · have HB := hid (show false = b by rw [← H.out]; unfold inB; simp [a])
    go_enter Tryd.func34, Tryd.ntmps34
    go_wp2_with fail
    go_ret
    exact ⟨ret_bool HB.out, rfl⟩

end Go.Proofs.YtbbjjhcpeablcaaDoor
