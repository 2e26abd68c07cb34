/- WALKS over the document's own distances of signs, and the document's example. -/
import Derived.Test.YtlfohihmkfphhaaSymP
namespace Go.Proofs.Ytlfohihmkfphhaa
set_option linter.unusedVariables false
open Go.RowKit
open Go.Proofs.Sym
namespace Sg

theorem backOf_in {p : Nat} {m x : Int} {ok : Bool} (h : IsBackOf (p : Int) m x ok) (hp : p < 30) (h0 : 0 ≤ m) (h1 : m < (atB (p + 1) : Int) - (atB p : Int)) : x = (atB p : Int) + m ∧ ok = true := by
  refine backOf_yes h (k := (wide 2 p : Int)) ?_
  have hb := back_tab ((atB p : Int) + m) p hp (by omega) (by omega)
  rw [show (atB p : Int) + m - (atB p : Int) = m from by omega] at hb
  exact hb
theorem backOf_out {c m x : Int} {ok : Bool} (h : IsBackOf c m x ok) (hne : c < 0 ∨ 29 < c ∨ m < 0 ∨ ∃ p : Nat, p < 30 ∧ c = (p : Int) ∧ (atB (p + 1) : Int) - (atB p : Int) ≤ m) : x = 0 ∧ ok = false := by
  rcases h with ⟨k, hk, rfl⟩ | ⟨_, rfl, rfl⟩
  · have hb := back_bd hk
    rcases hne with h | h | h | ⟨p, hp, rfl, h⟩
    · omega
    · omega
    · omega
    · rcases hk with ⟨q, hq, e, rfl, rfl, _⟩ | ⟨_, _, _, _, hh⟩
      · obtain rfl : p = q := by omega
        rw [atB_beg p (by omega), atB_beg (p + 1) (by omega)] at h
        obtain ⟨_, _, h3⟩ := hq
        omega
      · cases hh
  · exact ⟨rfl, rfl⟩

theorem below_drewN {B : Nat} {a W : World} (h : Below B a W) (n : Nat) : Below B a (W.drewN n) := ⟨h.os, h.tape, h.output, h.size, h.block⟩

set_option maxRecDepth 100000 in
set_option maxHeartbeats 1000000 in
theorem refBackOf (c m x : Int) (ok : Bool) (w : World) (h : IsBackOf c m x ok) (hc0 : -9223372036854775808 ≤ c) (hc1 : c ≤ 9223372036854775807) (hm0 : -9223372036854775808 ≤ m) (hm1 : m ≤ 9223372036854775807) :
    Calls Try.prog 72 #[.int .i64 c, .int .i64 m] w fun e w' => e = .returned (.tuple #[.int .i64 x, .bool ok]) ∧ Below w.heap.size w w' := by
  have HX := hid h
  clear h
  go_enter Try.func72, Try.ntmps72
  go_upto_region 2 with fail
  have h1 := one_new w #[.int .i64 1, .int .i64 2, .int .i64 3, .int .i64 4, .int .i64 5, .int .i64 7, .int .i64 9, .int .i64 13, .int .i64 17, .int .i64 25, .int .i64 33, .int .i64 49, .int .i64 65, .int .i64 97, .int .i64 129, .int .i64 193, .int .i64 257, .int .i64 385, .int .i64 513, .int .i64 769, .int .i64 1025, .int .i64 1537, .int .i64 2049, .int .i64 3073, .int .i64 4097, .int .i64 6145, .int .i64 8193, .int .i64 12289, .int .i64 16385, .int .i64 24577, .int .i64 32769] 3
  have H1 := hid h1
  clear h1
  generalize w.alloc (.cells #[.int .i64 1, .int .i64 2, .int .i64 3, .int .i64 4, .int .i64 5, .int .i64 7, .int .i64 9, .int .i64 13, .int .i64 17, .int .i64 25, .int .i64 33, .int .i64 49, .int .i64 65, .int .i64 97, .int .i64 129, .int .i64 193, .int .i64 257, .int .i64 385, .int .i64 513, .int .i64 769, .int .i64 1025, .int .i64 1537, .int .i64 2049, .int .i64 3073, .int .i64 4097, .int .i64 6145, .int .i64 8193, .int .i64 12289, .int .i64 16385, .int .i64 24577, .int .i64 32769] 3) = W0 at H1 ⊢
  generalize w.heap.size = G at H1 ⊢
  have HA := hid (show ∀ i, i < 31 → W0.cell? ⟨G, i, none⟩ = some (.int .i64 (atB i : Int)) from fun i hi => (H1.out.c i).trans (litB i hi))
  by_cases c0 : c < 0
  · obtain ⟨a, b⟩ := backOf_out HX.out (.inl c0)
    have EA := hid a
    have EB := hid b
    clear a b
    have g0 : decide (c < 0) = true := by simpa using c0
    go_quiet (fail)
    go_wp2_with fail
    go_ret2
    exact ⟨ret_pair EA.out EB.out, below_drewN H1.out.below _⟩
  · have g0 : decide (c < 0) = false := by simpa using c0
    by_cases c1 : 29 < c
    · obtain ⟨a, b⟩ := backOf_out HX.out (.inr (.inl c1))
      have EA := hid a
      have EB := hid b
      clear a b
      have g1 : decide (29 < c) = true := by simpa using c1
      go_quiet (fail)
      go_wp2_with fail
      go_ret2
      exact ⟨ret_pair EA.out EB.out, below_drewN H1.out.below _⟩
    · have g1 : decide (29 < c) = false := by simpa using c1
      by_cases m0 : m < 0
      · obtain ⟨a, b⟩ := backOf_out HX.out (.inr (.inr (.inl m0)))
        have EA := hid a
        have EB := hid b
        clear a b
        have g2 : decide (m < 0) = true := by simpa using m0
        go_quiet (fail)
        go_wp2_with fail
        go_ret2
        exact ⟨ret_pair EA.out EB.out, below_drewN H1.out.below _⟩
      · have g2 : decide (m < 0) = false := by simpa using m0
        obtain ⟨p, rfl⟩ := Int.eq_ofNat_of_zero_le (show 0 ≤ c by omega)
        have hp : p < 30 := by omega
        have a0 := HA.out p (by omega)
        have a1 := HA.out (p + 1) (by omega)
        have ab0 := atB_le p (by omega)
        have ab1 := atB_le (p + 1) (by omega)
        have HI := hid (backOf_in HX.out hp)
        have HO := hid (show (atB (p + 1) : Int) - (atB p : Int) ≤ m → x = 0 ∧ ok = false from fun h => backOf_out HX.out (.inr (.inr (.inr ⟨p, hp, rfl, h⟩))))
        clear HX
        generalize atB p = x0 at a0 ab0 HI HO
        generalize atB (p + 1) = x1 at a1 ab1 HI HO
        have hl31 : p < 31 := by omega
        have hl31i : (p : Int) < 31 := by omega
        have hl31j : (p : Int) + 1 < 31 := by omega
        have hp0 : (0 : Int) ≤ (p : Int) + 1 := by omega
        have e1 : IntKind.i64.wrap ((p : Int) + 1) = (p : Int) + 1 := by rw [IntKind.wrap_i64]; omega
        have e2 : IntKind.i64.wrap ((x1 : Int) - (x0 : Int)) = (x1 : Int) - (x0 : Int) := by rw [IntKind.wrap_i64]; omega
        have e3 : ((p : Int) + 1).toNat = p + 1 := by omega
        by_cases cm : (x1 : Int) - (x0 : Int) ≤ m
        · obtain ⟨a, b⟩ := HO.out cm
          have EA := hid a
          have EB := hid b
          clear a b HO HI
          have g3 : decide ((x1 : Int) - (x0 : Int) ≤ m) = true := by simpa using cm
          go_quiet (fail)
          go_wp2_with fail
          go_ret2
          exact ⟨ret_pair EA.out EB.out, below_drewN H1.out.below _⟩
        · obtain ⟨a, b⟩ := HI.out (by omega) (by omega)
          have EA := hid a
          have EB := hid b
          clear a b HO HI
          have g3 : decide ((x1 : Int) - (x0 : Int) ≤ m) = false := by simpa using cm
          go_quiet (fail)
          go_wp2_with fail
          go_ret2
          exact ⟨ret_pair EA.out EB.out, below_drewN H1.out.below _⟩

theorem IsLongEx : IsLong 13 266 1 0 true := .inr (.inl ⟨by decide, 9, by unfold At; decide +kernel, by decide, by decide +kernel, by decide +kernel, rfl⟩)
theorem IsBackEx : IsBack 7 5 1 0 true := .inl ⟨5, by unfold At; decide +kernel, by decide, by decide +kernel, by decide +kernel, rfl⟩

end Sg
end Go.Proofs.Ytlfohihmkfphhaa
