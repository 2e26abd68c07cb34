/- WALKS over the document's own codes. -/
import Derived.Test.YtlfohihmkfphhaaSymT
import Derived.StillTailTactics
import Derived.Deep.QuietTactic
import Derived.BigQuiet
import Derived.RegionTactic
namespace Go.Proofs.Ytlfohihmkfphhaa
set_option linter.unusedVariables false
open Go.RowKit
open Go.Proofs.Sym
namespace Sg

def tabL : List Nat := [3, 4, 5, 6, 7, 8, 9, 10, 11, 13, 15, 17, 19, 23, 27, 31, 35, 43, 51, 59, 67, 83, 99, 115, 131, 163, 195, 227, 258, 259]
def tabK : List Nat := [0, 0, 0, 0, 0, 0, 0, 0, 1, 1, 1, 1, 2, 2, 2, 2, 3, 3, 3, 3, 4, 4, 4, 4, 5, 5, 5, 5, 0]
def atL (i : Nat) : Nat := tabL.getD i 0
def atK (i : Nat) : Nat := tabK.getD i 0
def cellsOf (l : List Nat) : Array Value := (l.map fun x : Nat => Value.int .i64 (x : Int)).toArray
theorem cells_at (l : List Nat) (i : Nat) (h : i < l.length) : (cellsOf l)[i]? = some (.int .i64 ((l.getD i 0 : Nat) : Int)) := by
  unfold cellsOf
  simp [List.getD, h]
theorem atL_beg : ∀ i, i < 28 → atL i = beg 3 4 i := by decide +kernel
theorem atK_wide : ∀ i, i < 28 → atK i = wide 4 i := by decide +kernel
theorem atL_le : ∀ i, i < 30 → atL i ≤ 259 := by decide +kernel
theorem atK_le : ∀ i, i < 29 → atK i ≤ 5 := by decide +kernel
theorem long_tab (n : Int) (p : Nat) (hp : p < 29) (h1 : (atL p : Int) ≤ n) (h2 : n < (atL (p + 1) : Int)) : IsLong n (257 + (p : Int)) (atK p : Int) (n - (atL p : Int)) true := by
  by_cases c : p = 28
  · subst c
    have e1 : atL 28 = 258 := rfl
    have e2 : atL 29 = 259 := rfl
    have e3 : atK 28 = 0 := rfl
    rw [e1] at h1 ⊢
    rw [e2] at h2
    rw [e3]
    exact .inl ⟨by omega, by omega, rfl, by omega, rfl⟩
  · rw [atL_beg p (by omega)] at h1 ⊢
    rw [atK_wide p (by omega)]
    have h3 : n < 258 ∧ n < (beg 3 4 (p + 1) : Int) := by
      by_cases d : p = 27
      · subst d
        have e1 : atL (27 + 1) = 258 := rfl
        have e2 : beg 3 4 (27 + 1) = 259 := beg_longs
        rw [e1] at h2
        rw [e2]
        omega
      · rw [atL_beg (p + 1) (by omega)] at h2
        have := beg_le 3 4 (p + 1) 27 (by omega)
        have e : beg 3 4 27 = 227 := by decide +kernel
        omega
    exact .inr (.inl ⟨by omega, p, ⟨by omega, h1, h3.2⟩, rfl, rfl, rfl, rfl⟩)

theorem long_val {n c k m c' k' m' : Int} {ok ok' : Bool} (h : IsLong n c k m ok) (h' : IsLong n c' k' m' ok') : signE c' k' m' ok' = signE c k m ok := by
  obtain ⟨rfl, rfl, rfl, rfl⟩ := long_fn h h'
  rfl




theorem litL (i : Nat) (h : i < 30) : (#[.int .i64 3, .int .i64 4, .int .i64 5, .int .i64 6, .int .i64 7, .int .i64 8, .int .i64 9, .int .i64 10, .int .i64 11, .int .i64 13, .int .i64 15, .int .i64 17, .int .i64 19, .int .i64 23, .int .i64 27, .int .i64 31, .int .i64 35, .int .i64 43, .int .i64 51, .int .i64 59, .int .i64 67, .int .i64 83, .int .i64 99, .int .i64 115, .int .i64 131, .int .i64 163, .int .i64 195, .int .i64 227, .int .i64 258, .int .i64 259] : Array Value)[i]? = some (.int .i64 (atL i : Int)) := cells_at tabL i h
theorem litK (i : Nat) (h : i < 29) : (#[.int .i64 0, .int .i64 0, .int .i64 0, .int .i64 0, .int .i64 0, .int .i64 0, .int .i64 0, .int .i64 0, .int .i64 1, .int .i64 1, .int .i64 1, .int .i64 1, .int .i64 2, .int .i64 2, .int .i64 2, .int .i64 2, .int .i64 3, .int .i64 3, .int .i64 3, .int .i64 3, .int .i64 4, .int .i64 4, .int .i64 4, .int .i64 4, .int .i64 5, .int .i64 5, .int .i64 5, .int .i64 5, .int .i64 0] : Array Value)[i]? = some (.int .i64 (atK i : Int)) := cells_at tabK i h

set_option maxRecDepth 100000 in
set_option maxHeartbeats 1000000 in
theorem refLong (n c k m : Int) (ok : Bool) (w : World) (h : IsLong n c k m ok) (hn0 : -9223372036854775808 ≤ n) (hn1 : n ≤ 9223372036854775807) :
    Calls Try.prog 90 #[.int .i64 n] w fun e w' => e = signE c k m ok ∧ Below w.heap.size w w' := by
  have HS := hid h
  clear h
  go_enter Try.func90, Try.ntmps90
  go_wp2_with fail
  have h1 := one_new w #[.int .i64 0, .int .i64 0, .int .i64 0] 109
  have h2 := h1.next #[.int .i64 3, .int .i64 4, .int .i64 5, .int .i64 6, .int .i64 7, .int .i64 8, .int .i64 9, .int .i64 10, .int .i64 11, .int .i64 13, .int .i64 15, .int .i64 17, .int .i64 19, .int .i64 23, .int .i64 27, .int .i64 31, .int .i64 35, .int .i64 43, .int .i64 51, .int .i64 59, .int .i64 67, .int .i64 83, .int .i64 99, .int .i64 115, .int .i64 131, .int .i64 163, .int .i64 195, .int .i64 227, .int .i64 258, .int .i64 259] 3
  have h3 := h2.next #[.int .i64 0, .int .i64 0, .int .i64 0, .int .i64 0, .int .i64 0, .int .i64 0, .int .i64 0, .int .i64 0, .int .i64 1, .int .i64 1, .int .i64 1, .int .i64 1, .int .i64 2, .int .i64 2, .int .i64 2, .int .i64 2, .int .i64 3, .int .i64 3, .int .i64 3, .int .i64 3, .int .i64 4, .int .i64 4, .int .i64 4, .int .i64 4, .int .i64 5, .int .i64 5, .int .i64 5, .int .i64 5, .int .i64 0] 3
  have h1b := (h1.alloc (.cells #[.int .i64 3, .int .i64 4, .int .i64 5, .int .i64 6, .int .i64 7, .int .i64 8, .int .i64 9, .int .i64 10, .int .i64 11, .int .i64 13, .int .i64 15, .int .i64 17, .int .i64 19, .int .i64 23, .int .i64 27, .int .i64 31, .int .i64 35, .int .i64 43, .int .i64 51, .int .i64 59, .int .i64 67, .int .i64 83, .int .i64 99, .int .i64 115, .int .i64 131, .int .i64 163, .int .i64 195, .int .i64 227, .int .i64 258, .int .i64 259] 3)).alloc (.cells #[.int .i64 0, .int .i64 0, .int .i64 0, .int .i64 0, .int .i64 0, .int .i64 0, .int .i64 0, .int .i64 0, .int .i64 1, .int .i64 1, .int .i64 1, .int .i64 1, .int .i64 2, .int .i64 2, .int .i64 2, .int .i64 2, .int .i64 3, .int .i64 3, .int .i64 3, .int .i64 3, .int .i64 4, .int .i64 4, .int .i64 4, .int .i64 4, .int .i64 5, .int .i64 5, .int .i64 5, .int .i64 5, .int .i64 0] 3)
  have h2b := h2.alloc (.cells #[.int .i64 0, .int .i64 0, .int .i64 0, .int .i64 0, .int .i64 0, .int .i64 0, .int .i64 0, .int .i64 0, .int .i64 1, .int .i64 1, .int .i64 1, .int .i64 1, .int .i64 2, .int .i64 2, .int .i64 2, .int .i64 2, .int .i64 3, .int .i64 3, .int .i64 3, .int .i64 3, .int .i64 4, .int .i64 4, .int .i64 4, .int .i64 4, .int .i64 5, .int .i64 5, .int .i64 5, .int .i64 5, .int .i64 0] 3)
  have hs1 : (w.alloc (.cells #[.int .i64 0, .int .i64 0, .int .i64 0] 109)).heap.size = w.heap.size + 1 := by simp
  have hs2 : ((w.alloc (.cells #[.int .i64 0, .int .i64 0, .int .i64 0] 109)).alloc (.cells #[.int .i64 3, .int .i64 4, .int .i64 5, .int .i64 6, .int .i64 7, .int .i64 8, .int .i64 9, .int .i64 10, .int .i64 11, .int .i64 13, .int .i64 15, .int .i64 17, .int .i64 19, .int .i64 23, .int .i64 27, .int .i64 31, .int .i64 35, .int .i64 43, .int .i64 51, .int .i64 59, .int .i64 67, .int .i64 83, .int .i64 99, .int .i64 115, .int .i64 131, .int .i64 163, .int .i64 195, .int .i64 227, .int .i64 258, .int .i64 259] 3)).heap.size = w.heap.size + 1 + 1 := by simp
  rw [hs1] at h2b
  rw [hs2] at h3
  have H1 := hid h1b
  have H2 := hid h2b
  have H3 := hid h3
  clear hs1 hs2 h1 h2 h3 h1b h2b
  generalize ((w.alloc (.cells #[.int .i64 0, .int .i64 0, .int .i64 0] 109)).alloc (.cells #[.int .i64 3, .int .i64 4, .int .i64 5, .int .i64 6, .int .i64 7, .int .i64 8, .int .i64 9, .int .i64 10, .int .i64 11, .int .i64 13, .int .i64 15, .int .i64 17, .int .i64 19, .int .i64 23, .int .i64 27, .int .i64 31, .int .i64 35, .int .i64 43, .int .i64 51, .int .i64 59, .int .i64 67, .int .i64 83, .int .i64 99, .int .i64 115, .int .i64 131, .int .i64 163, .int .i64 195, .int .i64 227, .int .i64 258, .int .i64 259] 3)).alloc (.cells #[.int .i64 0, .int .i64 0, .int .i64 0, .int .i64 0, .int .i64 0, .int .i64 0, .int .i64 0, .int .i64 0, .int .i64 1, .int .i64 1, .int .i64 1, .int .i64 1, .int .i64 2, .int .i64 2, .int .i64 2, .int .i64 2, .int .i64 3, .int .i64 3, .int .i64 3, .int .i64 3, .int .i64 4, .int .i64 4, .int .i64 4, .int .i64 4, .int .i64 5, .int .i64 5, .int .i64 5, .int .i64 5, .int .i64 0] 3) = W0 at H1 H2 H3 ⊢
  generalize w.heap.size = G at H1 H2 H3 ⊢
  have HA := hid (show ∀ i, i < 30 → W0.cell? ⟨G + 1, i, none⟩ = some (.int .i64 (atL i : Int)) from fun i hi => (H2.out.c i).trans (litL i hi))
  have HK := hid (show ∀ i, i < 29 → W0.cell? ⟨G + 1 + 1, i, none⟩ = some (.int .i64 (atK i : Int)) from fun i hi => (H3.out.c i).trans (litK i hi))
  clear H2 H3
  have r0 : W0.cell? ⟨G, 0, none⟩ = some (.int .i64 0) := H1.out.c 0
  have r1 : W0.cell? ⟨G, 1, none⟩ = some (.int .i64 0) := H1.out.c 1
  have r2 : W0.cell? ⟨G, 2, none⟩ = some (.int .i64 0) := H1.out.c 2
  have f0 : W0.frozen? ⟨G, 0, none⟩ = false := H1.out.f 0
  have f1 : W0.frozen? ⟨G, 1, none⟩ = false := H1.out.f 1
  have f2 : W0.frozen? ⟨G, 2, none⟩ = false := H1.out.f 2
  go_loop [11] (fun i => ∃ p : Nat, p ≤ 29 ∧ i = .int .i64 p ∧ (n < 3 ∨ (atL p : Int) ≤ n)) (fun i => 29 - (intOf i).toNat)
  case atStart => exact ⟨0, by omega, rfl, by have e : atL 0 = 3 := rfl; rw [e]; omega⟩
  case round =>
    obtain ⟨p, hp, rfl, hlo⟩ := hrel
    have HL := hid hlo
    clear hlo
    by_cases hlt : p < 29
    · have a0 := HA.out p (by omega)
      have a1 := HA.out (p + 1) (by omega)
      have k0 := HK.out p hlt
      have ab0 := atL_le p (by omega)
      have ab1 := atL_le (p + 1) (by omega)
      have kb := atK_le p hlt
      have HY := hid (long_tab n p hlt)
      generalize atL p = x0 at a0 ab0 HY HL
      generalize hq : atL (p + 1) = x1 at a1 ab1 HY
      have HQ := hid hq
      generalize atK p = y at k0 kb HY
      clear hq
      by_cases c0 : (x0 : Int) ≤ n
      · by_cases c1 : n < (x1 : Int)
        · have HI := HY.out c0 c1
          have HIH := hid HI
          clear HI HY
          have hl30 : p < 30 := by omega
          have hl30i : (p : Int) < 30 := by omega
          have e1 : IntKind.i64.wrap (257 + (p : Int)) = 257 + (p : Int) := by rw [IntKind.wrap_i64]; omega
          have e2 : IntKind.i64.wrap (n - (x0 : Int)) = n - (x0 : Int) := by rw [IntKind.wrap_i64]; omega
          go_wp2_with fail
          go_still_tail 13, (by kernel_rfl)
          change wpList _ _ _ _ _ W0.drew
          have HD := hid H1.out.drew
          have q0 : W0.drew.cell? ⟨G, 0, none⟩ = some (.int .i64 0) := HD.out.c 0
          have q1 : W0.drew.cell? ⟨G, 1, none⟩ = some (.int .i64 0) := HD.out.c 1
          have q2 : W0.drew.cell? ⟨G, 2, none⟩ = some (.int .i64 0) := HD.out.c 2
          have t0 : W0.drew.frozen? ⟨G, 0, none⟩ = false := HD.out.f 0
          have t1 : W0.drew.frozen? ⟨G, 1, none⟩ = false := HD.out.f 1
          have t2 : W0.drew.frozen? ⟨G, 2, none⟩ = false := HD.out.f 2
          generalize W0.drew = WD at *
          go_wp2_with fail
          have HF := hid (HD.out.set3 (.int .i64 (257 + (p : Int))) (.int .i64 (y : Int)) (.int .i64 (n - (x0 : Int))))
          generalize ((WD.setCell ⟨G, 0, none⟩ (.int .i64 (257 + (p : Int)))).setCell ⟨G, 1, none⟩ (.int .i64 (y : Int))).setCell ⟨G, 2, none⟩ (.int .i64 (n - (x0 : Int))) = W9 at HF ⊢
          have g0 : W9.cell? ⟨G, 0, none⟩ = some (.int .i64 (257 + (p : Int))) := HF.out.c 0
          have g1 : W9.cell? ⟨G, 1, none⟩ = some (.int .i64 (y : Int)) := HF.out.c 1
          have g2 : W9.cell? ⟨G, 2, none⟩ = some (.int .i64 (n - (x0 : Int))) := HF.out.c 2
          refine bodyPost_ret (v := .tuple #[.agg #[.int .i64 (257 + (p : Int)), .int .i64 (y : Int), .int .i64 (n - (x0 : Int))], .bool true]) (by simp [results, Try.results90, go_sem, g0, g1, g2]) rfl ?_
          exact ⟨long_val HS.out HIH.out, HF.out.below⟩
        · go_wp2_with fail
          go_round
          case rel => exact ⟨p + 1, by omega, by go_num, by rw [HQ.out]; omega⟩
          case measure => simp [intOf]; omega
      · go_wp2_with fail
        go_round
        case rel => exact ⟨p + 1, by omega, by go_num, by have := HL.out; omega⟩
        case measure => simp [intOf]; omega
    · obtain rfl : p = 29 := by omega
      go_wp2_with fail
      have HF := hid (H1.out.set3 (.int .i64 0) (.int .i64 0) (.int .i64 0))
      generalize ((W0.setCell ⟨G, 0, none⟩ (.int .i64 0)).setCell ⟨G, 1, none⟩ (.int .i64 0)).setCell ⟨G, 2, none⟩ (.int .i64 0) = W9 at HF ⊢
      have g0 : W9.cell? ⟨G, 0, none⟩ = some (.int .i64 0) := HF.out.c 0
      have g1 : W9.cell? ⟨G, 1, none⟩ = some (.int .i64 0) := HF.out.c 1
      have g2 : W9.cell? ⟨G, 2, none⟩ = some (.int .i64 0) := HF.out.c 2
      refine bodyPost_ret (v := .tuple #[.agg #[.int .i64 0, .int .i64 0, .int .i64 0], .bool false]) (by simp [results, Try.results90, go_sem, g0, g1, g2]) rfl ?_
      refine ⟨long_val HS.out (.inr (.inr ⟨?_, rfl, rfl, rfl, rfl⟩)), HF.out.below⟩
      have e : atL 29 = 259 := rfl
      have h := HL.out
      rw [e] at h
      omega
end Sg
end Go.Proofs.Ytlfohihmkfphhaa
