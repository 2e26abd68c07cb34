/- WALKS over the document's own lengths and distances of signs, and the document's example. -/
import Derived.Test.YtlfohihmkfphhaaSymQ
namespace Go.Proofs.Ytlfohihmkfphhaa
set_option linter.unusedVariables false
open Go.RowKit
open Go.Proofs.Sym
namespace Sg

/-- No length below j has that sign. -/
def NoneYet (c m : Int) (j : Nat) : Prop := ∀ y k, y < (j : Int) → ¬ IsLong y c k m true
theorem none_start (c m : Int) : NoneYet c m 3 := fun y k hy h => by have := long_bd h; omega
theorem none_next {c m c' k' m' : Int} {j : Nat} (h : NoneYet c m j) (hj : IsLong (j : Int) c' k' m' true) (hne : ¬ (c' = c ∧ m' = m)) : NoneYet c m (j + 1) := by
  intro y k hy hk
  by_cases e : y = (j : Int)
  · subst e
    obtain ⟨a, b, d, _⟩ := long_fn hj hk
    exact hne ⟨a, d⟩
  · exact h y k (by omega) hk
theorem none_all {c m x : Int} {ok : Bool} (h : NoneYet c m 259) (hx : IsLongOf c m x ok) : x = 0 ∧ ok = false := by
  rcases hx with ⟨k, hk, rfl⟩ | ⟨_, rfl, rfl⟩
  · exact absurd hk (h _ _ (by have := long_bd hk; omega))
  · exact ⟨rfl, rfl⟩
/-- No length below j has that code. -/
def NoCode (c : Int) (j : Nat) : Prop := ∀ y k m, y < (j : Int) → ¬ IsLong y c k m true
theorem noCode_start (c : Int) : NoCode c 3 := fun y k m hy h => by have := long_bd h; omega
theorem noCode_next {c c' k' m' : Int} {j : Nat} (h : NoCode c j) (hj : IsLong (j : Int) c' k' m' true) (hne : ¬ c' = c) : NoCode c (j + 1) := by
  intro y k m hy hk
  by_cases e : y = (j : Int)
  · subst e
    obtain ⟨a, b, d, _⟩ := long_fn hj hk
    exact hne a
  · exact h y k m (by omega) hk
theorem noCode_all {c k : Int} (h : NoCode c 259) (hx : IsLongBits c k) : k = -1 := by
  rcases hx with ⟨x, m, hk⟩ | ⟨_, h⟩
  · exact absurd hk (h _ _ _ (by have := long_bd hk; omega))
  · exact h
theorem code_k {c k n k' m' : Int} (hx : IsLongBits c k) (hj : IsLong n c k' m' true) : k' = k := by
  rcases hx with ⟨x, m, hk⟩ | ⟨h, _⟩
  · exact long_bits hj hk
  · exact absurd hj (h _ _ _)

set_option maxRecDepth 100000 in
set_option maxHeartbeats 1000000 in
theorem refLongOf (c m x : Int) (ok : Bool) (w : World) (h : IsLongOf c m x ok) (hc0 : -9223372036854775808 ≤ c) (hc1 : c ≤ 9223372036854775807) (hm0 : -9223372036854775808 ≤ m) (hm1 : m ≤ 9223372036854775807) :
    Calls Try.prog 70 #[.int .i64 c, .int .i64 m] w fun e w' => e = .returned (.tuple #[.int .i64 x, .bool ok]) ∧ Below w.heap.size w w' := by
  have HX := hid h
  clear h
  go_enter Try.func70, Try.ntmps70
  go_wp2_with fail
  go_loopw [6] (fun i wr => ∃ j : Nat, 3 ≤ j ∧ j ≤ 259 ∧ i = .int .i64 j ∧ Below w.heap.size w wr ∧ NoneYet c m j) (fun i _ => 259 - (intOf i).toNat)
  case atStart => exact ⟨3, by omega, by omega, rfl, Below.refl _ _, none_start c m⟩
  case round =>
    obtain ⟨j, hj3, hj, rfl, hbel, hno⟩ := hrel
    have HB := hid hbel
    have HN := hid hno
    clear hbel hno
    by_cases hlt : j ≤ 258
    · obtain ⟨c', k', m', hl⟩ := long_yes (n := (j : Int)) (by omega) (by omega)
      have HL := hid hl
      clear hl
      go_wp2_with fail
      refine (refLong _ c' k' m' true _ HL.out (by omega) (by omega)).mono ?_
      rintro e w1 ⟨rfl, hb1⟩
      have HB1 := hid (HB.out.trans (hb1.mono HB.out.size))
      clear hb1 HB
      by_cases e1 : c' = c
      · by_cases e2 : m' = m
        · obtain ⟨a, b⟩ := longOf_yes HX.out (show IsLong (j : Int) c k' m true from by have h := HL.out; rw [e1, e2] at h; exact h)
          have EA := hid a
          have EB := hid b
          clear a b
          subst e1 e2
          go_wp2_with fail
          go_ret2
          exact ⟨ret_pair EA.out EB.out, HB1.out.alloc HB1.out.size _⟩
        · have HM := hid (none_next HN.out HL.out (fun h => e2 h.2))
          subst e1
          go_wp2_with fail
          go_roundw
          case rel => exact ⟨j + 1, by omega, by omega, by go_num, HB1.out.alloc HB1.out.size _, HM.out⟩
          case measure => simp [intOf]; omega
      · have HM := hid (none_next HN.out HL.out (fun h => e1 h.1))
        go_wp2_with fail
        go_roundw
        case rel => exact ⟨j + 1, by omega, by omega, by go_num, HB1.out.alloc HB1.out.size _, HM.out⟩
        case measure => simp [intOf]; omega
    · obtain rfl : j = 259 := by omega
      obtain ⟨a, b⟩ := none_all HN.out HX.out
      have EA := hid a
      have EB := hid b
      clear a b
      go_wp2_with fail
      go_ret2
      exact ⟨ret_pair EA.out EB.out, HB.out⟩

set_option maxRecDepth 100000 in
set_option maxHeartbeats 1000000 in
theorem refLongBits (c k : Int) (w : World) (h : IsLongBits c k) (hc0 : -9223372036854775808 ≤ c) (hc1 : c ≤ 9223372036854775807) :
    Calls Try.prog 69 #[.int .i64 c] w fun e w' => e = .returned (.int .i64 k) ∧ Below w.heap.size w w' := by
  have HX := hid h
  clear h
  go_enter Try.func69, Try.ntmps69
  go_wp2_with fail
  go_loopw [3] (fun i wr => ∃ j : Nat, 3 ≤ j ∧ j ≤ 259 ∧ i = .int .i64 j ∧ Below w.heap.size w wr ∧ NoCode c j) (fun i _ => 259 - (intOf i).toNat)
  case atStart => exact ⟨3, by omega, by omega, rfl, Below.refl _ _, noCode_start c⟩
  case round =>
    obtain ⟨j, hj3, hj, rfl, hbel, hno⟩ := hrel
    have HB := hid hbel
    have HN := hid hno
    clear hbel hno
    by_cases hlt : j ≤ 258
    · obtain ⟨c', k', m', hl⟩ := long_yes (n := (j : Int)) (by omega) (by omega)
      have HL := hid hl
      clear hl
      go_wp2_with fail
      refine (refLong _ c' k' m' true _ HL.out (by omega) (by omega)).mono ?_
      rintro e w1 ⟨rfl, hb1⟩
      have HB1 := hid (HB.out.trans (hb1.mono HB.out.size))
      clear hb1 HB
      by_cases e1 : c' = c
      · have a := code_k HX.out (show IsLong (j : Int) c k' m' true from by have h := HL.out; rw [e1] at h; exact h)
        have EA := hid a
        clear a
        subst e1
        go_wp2_with fail
        go_ret
        exact ⟨ret_int EA.out, HB1.out.alloc HB1.out.size _⟩
      · have HM := hid (noCode_next HN.out HL.out e1)
        go_wp2_with fail
        go_roundw
        case rel => exact ⟨j + 1, by omega, by omega, by go_num, HB1.out.alloc HB1.out.size _, HM.out⟩
        case measure => simp [intOf]; omega
    · obtain rfl : j = 259 := by omega
      have a := noCode_all HN.out HX.out
      have EA := hid a
      clear a
      go_wp2_with fail
      go_ret
      exact ⟨ret_int EA.out.symm, HB.out⟩

theorem back_q (c : Int) (h : 0 ≤ c) (h2 : c ≤ 29) : max (0 : Int) (c / 2 - 1) = backBits c := by
  unfold backBits wide
  rw [if_neg (by omega)]
  omega
set_option maxRecDepth 100000 in
set_option maxHeartbeats 1000000 in
theorem refBackBits (c : Int) (w : World) (hc0 : -9223372036854775808 ≤ c) (hc1 : c ≤ 9223372036854775807) :
    Calls Try.prog 71 #[.int .i64 c] w fun e w' => e = .returned (.int .i64 (backBits c)) ∧ w = w' := by
  by_cases h0 : c < 0
  · have HQ := hid (backBits_none (.inl h0))
    generalize backBits c = q at HQ ⊢
    go_enter Try.func71, Try.ntmps71
    go_wp2_with fail
    go_ret
    exact ⟨ret_int HQ.out.symm, rfl⟩
  · by_cases h1 : 29 < c
    · have HQ := hid (backBits_none (.inr h1))
      generalize backBits c = q at HQ ⊢
      go_enter Try.func71, Try.ntmps71
      go_wp2_with fail
      go_ret
      exact ⟨ret_int HQ.out.symm, rfl⟩
    · have HQ := hid (back_q c (by omega) (by omega))
      generalize backBits c = q at HQ ⊢
      go_enter Try.func71, Try.ntmps71
      go_wp2_with fail
      all_goals
        go_ret
        exact ⟨ret_int (by have := HQ.out; omega), rfl⟩
end Sg
end Go.Proofs.Ytlfohihmkfphhaa
