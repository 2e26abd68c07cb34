/- RUNS: how far a row goes on; a step as the program makes it; whether lengths can be written; rows of steps. -/
import Derived.Test.YtdjlkacmaflhfaaRunC
import Derived.Test.YtdjlkacmaflhfaaRunN
namespace Go.Proofs.Ytdjlkacmaflhfaa
set_option linter.unusedVariables false
open Go.RowKit
open Go.Proofs.Runs
attribute [local go_sem ↓] Go.wp_at_zero Go.wp_at_succ
namespace Run
/-- Numbers that lie in a row. -/
structure Ints (W : World) (A : Option Addr) (b off len : Nat) (x : Nat → Int) : Prop where
  ad : 0 < len → A = some ⟨b, off, none⟩
  lt : 0 < len → b < W.heap.size
  at_ : ∀ i, i < len → W.cell? ⟨b, off + i, none⟩ = some (.int .i64 (x i))
theorem Ints.below {W W' : World} {A : Option Addr} {b off len : Nat} {x : Nat → Int} (h : Ints W A b off len x) (hb : Below W.heap.size W W') : Ints W' A b off len x :=
  ⟨h.ad, fun hl => Nat.lt_of_lt_of_le (h.lt hl) hb.size, fun i hi => (hb.cell (p := ⟨b, off + i, none⟩) (h.lt (by omega))).trans (h.at_ i hi)⟩

set_option maxRecDepth 100000 in
set_option maxHeartbeats 1000000 in
theorem goesOn (A : Option Addr) (b off len cap B : Nat) (x : Nat → Int) (at' : Nat) (v : Int) (w : World) (hlen : len ≤ 450) (hat : at' ≤ len) (hx : Ints w A b off len x) (hc : w.cell? ⟨B, 0, none⟩ = some (.slice A len cap)) :
    Calls Try.prog 34 #[.int .i64 at', .int .i64 v, .pointer (some ⟨B, 0, none⟩)] w fun e w' => e = .returned (.int .i64 (goes x len v at' : Nat)) ∧ w' = w := by
  have HX := hid hx
  clear hx
  go_enter Try.func34, Try.ntmps34
  go_upto_region 2 with fail
  go_loopw [6] (fun i wr => ∃ E : Nat, i = .int .i64 E ∧ at' ≤ E ∧ E ≤ len ∧ (∀ k, k < E - at' → x (at' + k) = v) ∧ wr = w) (fun i _ => len - (intOf i).toNat)
  case atStart => exact ⟨at', rfl, Nat.le_refl _, hat, fun k hk => absurd hk (by omega), rfl⟩
  case round =>
    obtain ⟨E, rfl, h1, h2, h3, rfl⟩ := hrel
    have H3 := hid h3
    clear h3
    by_cases hlt : E < len
    · have hA := HX.out.ad (by omega)
      subst hA
      have c0 := HX.out.at_ E hlt
      have HE := hid (show x E = x E from rfl)
      by_cases hv : x E = v
      · have HV := hid hv
        rw [hv] at c0
        clear hv
        go_wp2_with fail
        go_roundw
        case rel =>
          refine ⟨E + 1, by go_num, by omega, by omega, fun k hk => ?_, trivial⟩
          by_cases q : k < E - at'
          · exact H3.out k q
          · rw [show at' + k = E by omega]; exact HV.out
        case measure => simp [intOf]; omega
      · have HR := hid (goes_eq (x := x) (len := len) (v := v) (at' := at') (Z := E - at') hat H3.out (by omega) (.inr (by rw [show at' + (E - at') = E by omega]; exact hv)))
        have hv2 : (x E == v) = false := by simpa using hv
        generalize x E = y at *
        have w0 : IntKind.i64.wrap ((E : Int) - (at' : Int)) = ((E - at' : Nat) : Int) := by rw [IntWalk.i64_in _ (by omega)]; omega
        clear hv HE
        go_wp2_with fail
        go_ret
        exact ⟨ret_int (by rw [HR.out]), rfl⟩
    · obtain rfl : E = len := by omega
      have HR := hid (goes_eq (x := x) (len := E) (v := v) (at' := at') (Z := E - at') hat H3.out (by omega) (.inl (by omega)))
      have w0 : IntKind.i64.wrap ((E : Int) - (at' : Int)) = ((E - at' : Nat) : Int) := by rw [IntWalk.i64_in _ (by omega)]; omega
      go_wp2_with fail
      go_ret
      exact ⟨ret_int (by rw [HR.out]), rfl⟩

set_option maxRecDepth 100000 in
theorem rightLens_yes (A : Option Addr) (b off len cap : Nat) (x : Nat → Int) (w : World) (hF : Fine x len) (hx : Ints w A b off len x) :
    Calls Try.prog 33 #[.slice A len cap] w fun e w' => e = .returned (.bool true) ∧ w' = w := by
  have HX := hid hx
  have HF := hid hF
  have hl := hF.1
  clear hx hF
  go_enter Try.func33, Try.ntmps33
  go_upto_region 2 with fail
  go_loopw [7] (fun i wr => ∃ k : Nat, i = .int .i64 k ∧ k ≤ len ∧ wr = w) (fun i _ => len - (intOf i).toNat)
  case atStart => exact ⟨0, rfl, Nat.zero_le _, rfl⟩
  case round =>
    obtain ⟨k, rfl, h1, rfl⟩ := hrel
    by_cases hlt : k < len
    · have hA := HX.out.ad (by omega)
      subst hA
      have c0 := HX.out.at_ k hlt
      obtain ⟨f0, f1⟩ := HF.out.2 k hlt
      generalize x k = y at *
      have g0 : ¬ y < 0 := by omega
      have g1 : ¬ 15 < y := by omega
      go_wp2_with fail
      go_roundw
      case rel => exact ⟨k + 1, by go_num, by omega, trivial⟩
      case measure => simp [intOf]; omega
    · obtain rfl : k = len := by omega
      have g0 : (k : Int) ≤ 400 := by omega
      go_wp2_with fail
      go_ret
      exact ⟨rfl, rfl⟩
set_option maxRecDepth 100000 in
theorem rightLens_no (A : Option Addr) (b off len cap : Nat) (x : Nat → Int) (w : World) (hF : ¬ Fine x len) (hlen : len ≤ 450) (hx : Ints w A b off len x) :
    Calls Try.prog 33 #[.slice A len cap] w fun e w' => e = .returned (.bool false) ∧ w' = w := by
  have HX := hid hx
  have HF := hid hF
  clear hx hF
  go_enter Try.func33, Try.ntmps33
  go_upto_region 2 with fail
  go_loopw [7] (fun i wr => ∃ k : Nat, i = .int .i64 k ∧ k ≤ len ∧ (∀ j, j < k → 0 ≤ x j ∧ x j ≤ 15) ∧ wr = w) (fun i _ => len - (intOf i).toNat)
  case atStart => exact ⟨0, rfl, Nat.zero_le _, fun j hj => absurd hj (by omega), rfl⟩
  case round =>
    obtain ⟨k, rfl, h1, h2, rfl⟩ := hrel
    have H2 := hid h2
    clear h2
    by_cases hlt : k < len
    · have hA := HX.out.ad (by omega)
      subst hA
      have c0 := HX.out.at_ k hlt
      have HN := hid (show ∀ q, x k = q → 0 ≤ q ∧ q ≤ 15 → ∀ j, j < k + 1 → 0 ≤ x j ∧ x j ≤ 15 from fun q hq hb j hj => by
        by_cases e : j = k
        · subst e; rw [hq]; exact hb
        · exact H2.out j (by omega))
      have HQ := hid (show x k = x k from rfl)
      generalize hy : x k = y at c0
      have HY := hid hy
      clear hy HQ
      by_cases g0 : y < 0
      · go_wp2_with fail
        go_ret
        exact ⟨rfl, rfl⟩
      · by_cases g1 : 15 < y
        · go_wp2_with fail
          go_ret
          exact ⟨rfl, rfl⟩
        · go_wp2_with fail
          go_roundw
          case rel => exact ⟨k + 1, by go_num, by omega, HN.out y HY.out ⟨by omega, by omega⟩, trivial⟩
          case measure => simp [intOf]; omega
    · obtain rfl : k = len := by omega
      have g0 : ¬ (k : Int) ≤ 400 := fun h => HF.out ⟨by omega, H2.out⟩
      go_wp2_with fail
      go_ret
      exact ⟨rfl, rfl⟩
theorem ret_step {s q a b : Int} (h : a = b) : Ending.returned (.agg #[.int .i64 s, .int .i64 q, .int .i64 a]) = .returned (stepV s q b) := by rw [h]
/-- What a step makes of so many lengths. -/
def stepM (s : Int) (n : Int) : Int := min (n - leastI s) (room s - 1)
set_option maxRecDepth 100000 in
set_option maxHeartbeats 1000000 in
theorem step (s n : Int) (h0 : 0 ≤ s) (h1 : s ≤ 18) (n0 : 0 ≤ n) (n1 : n ≤ 1000) (w : World) :
    Calls Try.prog 35 #[.int .i64 s, .int .i64 n] w fun e w' => e = .returned (stepV s (bitsI s) (stepM s n)) ∧ Below w.heap.size w w' := by
  have HB := hid (fun W => bits s W)
  have HL := hid (fun W => least s W)
  have hl : 1 ≤ leastI s ∧ leastI s ≤ 11 := by have := many_cases s 0; unfold manyI at this; omega
  have hr := bits_le s
  have e : stepM s n = min (n - leastI s) (room s - 1) := rfl
  rw [e]
  clear e
  generalize leastI s = L at *
  obtain ⟨l0, l1⟩ := hl
  have w0 : IntKind.i64.wrap (n - L) = n - L := IntWalk.i64_in _ (by omega)
  have hq : (bitsI s = 0 ∧ room s = 1) ∨ (bitsI s = 2 ∧ room s = 4) ∨ (bitsI s = 3 ∧ room s = 8) ∨ (bitsI s = 7 ∧ room s = 128) := by omega
  generalize bitsI s = q at *
  generalize room s = r at *
  clear hr
  rcases hq with ⟨rfl, rfl⟩ | ⟨rfl, rfl⟩ | ⟨rfl, rfl⟩ | ⟨rfl, rfl⟩
  · have HE := hid (show IntKind.i64.wrap (IntKind.i64.wrap 1 - 1) = 0 from by decide)
    go_enter Try.func35, Try.ntmps35
    go_wp2_with fail
    refine (HB.out _).mono ?_
    rintro e w1 ⟨rfl, rfl⟩
    go_upto_region 2 with fail
    go_region_with (first | (go_at_call 36; refine (HL.out _).mono ?_; rintro e w1 ⟨rfl, rfl⟩))
    try (go_wp2_with fail)
    all_goals go_returns
    all_goals exact ⟨ret_step (by have h9 := HE.out; omega), below_drewN ((Below.refl _ _).alloc (Nat.le_refl _) _) 1⟩
  · have HE := hid (show IntKind.i64.wrap (IntKind.i64.wrap 4 - 1) = 3 from by decide)
    go_enter Try.func35, Try.ntmps35
    go_wp2_with fail
    refine (HB.out _).mono ?_
    rintro e w1 ⟨rfl, rfl⟩
    go_upto_region 2 with fail
    go_region_with (first | (go_at_call 36; refine (HL.out _).mono ?_; rintro e w1 ⟨rfl, rfl⟩))
    try (go_wp2_with fail)
    all_goals go_returns
    all_goals exact ⟨ret_step (by have h9 := HE.out; omega), below_drewN ((Below.refl _ _).alloc (Nat.le_refl _) _) 1⟩
  · have HE := hid (show IntKind.i64.wrap (IntKind.i64.wrap 8 - 1) = 7 from by decide)
    go_enter Try.func35, Try.ntmps35
    go_wp2_with fail
    refine (HB.out _).mono ?_
    rintro e w1 ⟨rfl, rfl⟩
    go_upto_region 2 with fail
    go_region_with (first | (go_at_call 36; refine (HL.out _).mono ?_; rintro e w1 ⟨rfl, rfl⟩))
    try (go_wp2_with fail)
    all_goals go_returns
    all_goals exact ⟨ret_step (by have h9 := HE.out; omega), below_drewN ((Below.refl _ _).alloc (Nat.le_refl _) _) 1⟩
  · have HE := hid (show IntKind.i64.wrap (IntKind.i64.wrap 128 - 1) = 127 from by decide)
    go_enter Try.func35, Try.ntmps35
    go_wp2_with fail
    refine (HB.out _).mono ?_
    rintro e w1 ⟨rfl, rfl⟩
    go_upto_region 2 with fail
    go_region_with (first | (go_at_call 36; refine (HL.out _).mono ?_; rintro e w1 ⟨rfl, rfl⟩))
    try (go_wp2_with fail)
    all_goals go_returns
    all_goals exact ⟨ret_step (by have h9 := HE.out; omega), below_drewN ((Below.refl _ _).alloc (Nat.le_refl _) _) 1⟩
end Run
end Go.Proofs.Ytdjlkacmaflhfaa
