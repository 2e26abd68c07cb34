/- WALK: the document's own seconds. -/
import Derived.Test.YtbcbimlcjcaegaaDoorDosN
import Derived.Test.YtbcbimlcjcaegaaDoorDosY
namespace Go.Proofs.YtbcbimlcjcaegaaDoor
set_option linter.unusedVariables false
open Go.RowKit
open Go.Proofs.Dos
attribute [local go_sem ↓] Go.wp_at_zero Go.wp_at_succ

set_option maxRecDepth 100000 in
set_option maxHeartbeats 4000000 in
theorem refSeconds (x : T) (w : World) (hf : Fits x) :
    Calls Tryd.prog 21 #[tV x] w fun e w' => e = .returned (.int .i64 (secsI x)) ∧ Below w.heap.size w w' := by
  have HE := hid (outer_end hf)
  have HOB := hid (outer_bd x.year x.month)
  have HIB := hid (inner_bd x.year x.month)
  have HOS := hid (show ∀ k : Nat, outerN x.year x.month (k + 1) = outerN x.year x.month k + innerN x.year x.month (1980 + (k : Int)) 12 from fun _ => rfl)
  have HIS := hid (show ∀ (y : Int) (j : Nat), innerN x.year x.month y (j + 1) = innerN x.year x.month y j + (if y < x.year ∨ 1 + (j : Int) < x.month then daysI y (1 + (j : Int)) else 0) from fun _ _ => rfl)
  have HO0 := hid (show outerN x.year x.month 0 = 0 from rfl)
  have HI0 := hid (show ∀ y, innerN x.year x.month y 0 = 0 from fun _ => rfl)
  have hm := hf.month
  have hD := daysOf_bd hf
  have HDD := hid (show daysOf x = yearsN (x.year - 1980).toNat + monthsN x.year (x.month - 1).toNat + (x.day - 1) from rfl)
  have HSS := hid (show secsI x = ((daysOf x * 24 + x.hour) * 60 + x.minute) * 60 + x.second from rfl)
  obtain ⟨q1, q2, q3, q4, q5, q6, q7, q8⟩ := hf
  clear q2
  generalize secsI x = SS at HSS ⊢
  generalize daysOf x = DD at HDD HSS hD
  obtain ⟨y, m, d, h, n, s⟩ := x
  simp only [tV] at *
  obtain ⟨K, rfl⟩ : ∃ K : Nat, y = 1980 + (K : Int) := ⟨(y - 1980).toNat, by omega⟩
  have eK : (1980 + (K : Int) - 1980).toNat = K := by omega
  rw [eK] at HDD HE
  have HEE := hid (show outerN (1980 + (K : Int)) m (K + 1) = DD - (d - 1) by have := HE.out; have := HDD.out; omega)
  have hK : K ≤ 127 := by omega
  have hd31 : d ≤ 31 := by omega
  have hm0 : 1 ≤ m := by omega
  have hm1 : m ≤ 12 := by omega
  clear eK hm HE HDD
  generalize hON : outerN (1980 + (K : Int)) m = ON at *
  generalize hIN : innerN (1980 + (K : Int)) m = IN at *
  clear hON hIN
  go_enter Tryd.func21, Tryd.ntmps21
  go_wp2_with fail
  have HB := hid ((Below.refl w.heap.size w).alloc (Nat.le_refl _) (.cells #[.int .i64 (1980 + (K : Int)), .int .i64 m, .int .i64 d, .int .i64 h, .int .i64 n, .int .i64 s] 24))
  obtain ⟨c0, c1, c2, c3, c4, c5⟩ := six_ (heap_alloc_new w (.cells #[.int .i64 (1980 + (K : Int)), .int .i64 m, .int .i64 d, .int .i64 h, .int .i64 n, .int .i64 s] 24))
  generalize w.alloc (.cells #[.int .i64 (1980 + (K : Int)), .int .i64 m, .int .i64 d, .int .i64 h, .int .i64 n, .int .i64 s] 24) = W at *
  generalize hg : w.heap.size = g at *
  have HG := hid hg
  clear hg
  go_loop [3, 4] (fun nn yy => ∃ k : Nat, k ≤ K + 1 ∧ yy = .int .i64 (1980 + (k : Int)) ∧ nn = .int .i64 (ON k)) (fun _ yy => (2200 - intOf yy).toNat)
  case atStart => exact ⟨0, by omega, rfl, val_int HO0.out.symm⟩
  case round =>
    obtain ⟨k, hk, rfl, rfl⟩ := hrel
    have o0 := HOB.out k
    by_cases hlt : k ≤ K
    · go_wp2_with fail
      go_loop [3, 5] (fun nn mm => ∃ j : Nat, j ≤ 12 ∧ mm = .int .i64 (1 + (j : Int)) ∧ nn = .int .i64 (ON k + IN (1980 + (k : Int)) j)) (fun _ mm => (20 - intOf mm).toNat)
      case atStart => exact ⟨0, by omega, rfl, val_int (by rw [HI0.out]; omega)⟩
      case round =>
        obtain ⟨j, hj, rfl, rfl⟩ := hrel
        have i0 := HIB.out (1980 + (k : Int)) j
        have i1 := daysI_bd (1980 + (k : Int)) (1 + (j : Int))
        by_cases hlt2 : j < 12
        · have HS := hid (HIS.out (1980 + (k : Int)) j)
          by_cases a : k < K
          · have HS2 := hid (show IN (1980 + (k : Int)) (j + 1) = IN (1980 + (k : Int)) j + daysI (1980 + (k : Int)) (1 + (j : Int)) by rw [HS.out, if_pos (.inl (by omega))])
            clear HS
            go_wp2_with (go_at_call 18; refine (refDays (1980 + (k : Int)) (1 + (j : Int)) _ (by omega) (by omega) (by omega) (by omega)).mono ?_; rintro e w' ⟨rfl, rfl⟩)
            go_round
            case rel => exact ⟨j + 1, by omega, by go_num, val_int (by have := HS2.out; omega)⟩
            case measure => simp [intOf]; omega
          · by_cases b : 1 + (j : Int) < m
            · have HS2 := hid (show IN (1980 + (k : Int)) (j + 1) = IN (1980 + (k : Int)) j + daysI (1980 + (k : Int)) (1 + (j : Int)) by rw [HS.out, if_pos (.inr b)])
              clear HS
              go_wp2_with (go_at_call 18; refine (refDays (1980 + (k : Int)) (1 + (j : Int)) _ (by omega) (by omega) (by omega) (by omega)).mono ?_; rintro e w' ⟨rfl, rfl⟩)
              go_round
              case rel => exact ⟨j + 1, by omega, by go_num, val_int (by have := HS2.out; omega)⟩
              case measure => simp [intOf]; omega
            · have HS2 := hid (show IN (1980 + (k : Int)) (j + 1) = IN (1980 + (k : Int)) j by rw [HS.out, if_neg (by omega)]; omega)
              clear HS
              go_wp2_with fail
              go_round
              case rel => exact ⟨j + 1, by omega, by go_num, val_int (by have := HS2.out; omega)⟩
              case measure => simp [intOf]; omega
        · obtain rfl : j = 12 := by omega
          have HS := hid (HOS.out k)
          go_wp2_with fail
          go_round
          case rel => exact ⟨k + 1, by omega, by go_num, val_int (by have := HS.out; omega)⟩
          case measure => simp [intOf]; omega
    · obtain rfl : k = K + 1 := by omega
      rw [HEE.out] at o0 ⊢
      go_wp2_with fail
      go_ret
      exact ⟨ret_int (by have := HSS.out; omega), by have hb := HB.out; rw [← HG.out] at hb; exact hb⟩
end Go.Proofs.YtbcbimlcjcaegaaDoor
