/- WALKS over the document's own distances. -/
import Derived.Test.YthgjijjalfhhcaaSymR
namespace Go.Proofs.Ythgjijjalfhhcaa
set_option linter.unusedVariables false
open Go.RowKit
open Go.Proofs.Sym

def tabB : List Nat := [1, 2, 3, 4, 5, 7, 9, 13, 17, 25, 33, 49, 65, 97, 129, 193, 257, 385, 513, 769, 1025, 1537, 2049, 3073, 4097, 6145, 8193, 12289, 16385, 24577, 32769]
def atB (i : Nat) : Nat := tabB.getD i 0
theorem atB_beg : ∀ i, i < 31 → atB i = beg 1 2 i := by decide +kernel
theorem atB_le : ∀ i, i < 31 → atB i ≤ 32769 := by decide +kernel
theorem litB (i : Nat) (h : i < 31) : (#[.int .i64 1, .int .i64 2, .int .i64 3, .int .i64 4, .int .i64 5, .int .i64 7, .int .i64 9, .int .i64 13, .int .i64 17, .int .i64 25, .int .i64 33, .int .i64 49, .int .i64 65, .int .i64 97, .int .i64 129, .int .i64 193, .int .i64 257, .int .i64 385, .int .i64 513, .int .i64 769, .int .i64 1025, .int .i64 1537, .int .i64 2049, .int .i64 3073, .int .i64 4097, .int .i64 6145, .int .i64 8193, .int .i64 12289, .int .i64 16385, .int .i64 24577, .int .i64 32769] : Array Value)[i]? = some (.int .i64 (atB i : Int)) := cells_at tabB i h
theorem back_tab (n : Int) (p : Nat) (hp : p < 30) (h1 : (atB p : Int) ≤ n) (h2 : n < (atB (p + 1) : Int)) : IsBack n (p : Int) (wide 2 p : Int) (n - (atB p : Int)) true := by
  rw [atB_beg p (by omega)] at h1 ⊢
  rw [atB_beg (p + 1) (by omega)] at h2
  exact .inl ⟨p, ⟨hp, h1, h2⟩, rfl, rfl, rfl, rfl⟩
theorem back_val {n c k m c' k' m' : Int} {ok ok' : Bool} (h : IsBack n c k m ok) (h' : IsBack n c' k' m' ok') : signE c' k' m' ok' = signE c k m ok := by
  obtain ⟨rfl, rfl, rfl, rfl⟩ := back_fn h h'
  rfl

set_option maxRecDepth 100000 in
set_option maxHeartbeats 1000000 in
theorem refBack (n c k m : Int) (ok : Bool) (w : World) (h : IsBack n c k m ok) (hn0 : -9223372036854775808 ≤ n) (hn1 : n ≤ 9223372036854775807) :
    Calls Try.prog 44 #[.int .i64 n] w fun e w' => e = signE c k m ok ∧ Below w.heap.size w w' := by
  have HS := hid h
  clear h
  go_enter Try.func44, Try.ntmps44
  go_wp2_with fail
  have h1 := one_new w #[.int .i64 0, .int .i64 0, .int .i64 0] 64
  have h2 := h1.next #[.int .i64 1, .int .i64 2, .int .i64 3, .int .i64 4, .int .i64 5, .int .i64 7, .int .i64 9, .int .i64 13, .int .i64 17, .int .i64 25, .int .i64 33, .int .i64 49, .int .i64 65, .int .i64 97, .int .i64 129, .int .i64 193, .int .i64 257, .int .i64 385, .int .i64 513, .int .i64 769, .int .i64 1025, .int .i64 1537, .int .i64 2049, .int .i64 3073, .int .i64 4097, .int .i64 6145, .int .i64 8193, .int .i64 12289, .int .i64 16385, .int .i64 24577, .int .i64 32769] 3
  have h1b := h1.alloc (.cells #[.int .i64 1, .int .i64 2, .int .i64 3, .int .i64 4, .int .i64 5, .int .i64 7, .int .i64 9, .int .i64 13, .int .i64 17, .int .i64 25, .int .i64 33, .int .i64 49, .int .i64 65, .int .i64 97, .int .i64 129, .int .i64 193, .int .i64 257, .int .i64 385, .int .i64 513, .int .i64 769, .int .i64 1025, .int .i64 1537, .int .i64 2049, .int .i64 3073, .int .i64 4097, .int .i64 6145, .int .i64 8193, .int .i64 12289, .int .i64 16385, .int .i64 24577, .int .i64 32769] 3)
  have hs1 : (w.alloc (.cells #[.int .i64 0, .int .i64 0, .int .i64 0] 64)).heap.size = w.heap.size + 1 := by simp
  rw [hs1] at h2
  have H1 := hid h1b
  have H2 := hid h2
  clear hs1 h1 h2 h1b
  generalize (w.alloc (.cells #[.int .i64 0, .int .i64 0, .int .i64 0] 64)).alloc (.cells #[.int .i64 1, .int .i64 2, .int .i64 3, .int .i64 4, .int .i64 5, .int .i64 7, .int .i64 9, .int .i64 13, .int .i64 17, .int .i64 25, .int .i64 33, .int .i64 49, .int .i64 65, .int .i64 97, .int .i64 129, .int .i64 193, .int .i64 257, .int .i64 385, .int .i64 513, .int .i64 769, .int .i64 1025, .int .i64 1537, .int .i64 2049, .int .i64 3073, .int .i64 4097, .int .i64 6145, .int .i64 8193, .int .i64 12289, .int .i64 16385, .int .i64 24577, .int .i64 32769] 3) = W0 at H1 H2 ⊢
  generalize w.heap.size = G at H1 H2 ⊢
  have HA := hid (show ∀ i, i < 31 → W0.cell? ⟨G + 1, i, none⟩ = some (.int .i64 (atB i : Int)) from fun i hi => (H2.out.c i).trans (litB i hi))
  clear H2
  have r0 : W0.cell? ⟨G, 0, none⟩ = some (.int .i64 0) := H1.out.c 0
  have r1 : W0.cell? ⟨G, 1, none⟩ = some (.int .i64 0) := H1.out.c 1
  have r2 : W0.cell? ⟨G, 2, none⟩ = some (.int .i64 0) := H1.out.c 2
  have f0 : W0.frozen? ⟨G, 0, none⟩ = false := H1.out.f 0
  have f1 : W0.frozen? ⟨G, 1, none⟩ = false := H1.out.f 1
  have f2 : W0.frozen? ⟨G, 2, none⟩ = false := H1.out.f 2
  go_loop [5] (fun i => ∃ p : Nat, p ≤ 30 ∧ i = .int .i64 p ∧ (n < 1 ∨ (atB p : Int) ≤ n)) (fun i => 30 - (intOf i).toNat)
  case atStart => exact ⟨0, by omega, rfl, by have e : atB 0 = 1 := rfl; rw [e]; omega⟩
  case round =>
    obtain ⟨p, hp, rfl, hlo⟩ := hrel
    have HL := hid hlo
    clear hlo
    by_cases hlt : p < 30
    · have a0 := HA.out p (by omega)
      have a1 := HA.out (p + 1) (by omega)
      have ab0 := atB_le p (by omega)
      have ab1 := atB_le (p + 1) (by omega)
      have HY := hid (back_tab n p hlt)
      have HW := hid (wide2 p)
      generalize atB p = x0 at a0 ab0 HY HL
      generalize hq : atB (p + 1) = x1 at a1 ab1 HY
      have HQ := hid hq
      clear hq
      have hl31 : p < 31 := by omega
      have hl31i : (p : Int) < 31 := by omega
      by_cases c0 : (x0 : Int) ≤ n
      · by_cases c1 : n < (x1 : Int)
        · have HI := HY.out c0 c1
          have HIH := hid HI
          clear HI HY
          go_wp2_with fail
          all_goals
            first
              | (have HF := hid (H1.out.set3 (.int .i64 (p : Int)) (.int .i64 0) (.int .i64 (n - (x0 : Int))))
                 generalize ((W0.setCell ⟨G, 0, none⟩ (.int .i64 (p : Int))).setCell ⟨G, 1, none⟩ (.int .i64 0)).setCell ⟨G, 2, none⟩ (.int .i64 (n - (x0 : Int))) = W9 at HF ⊢
                 have g0 : W9.cell? ⟨G, 0, none⟩ = some (.int .i64 (p : Int)) := HF.out.c 0
                 have g1 : W9.cell? ⟨G, 1, none⟩ = some (.int .i64 0) := HF.out.c 1
                 have g2 : W9.cell? ⟨G, 2, none⟩ = some (.int .i64 (n - (x0 : Int))) := HF.out.c 2
                 refine bodyPost_ret (v := .tuple #[.agg #[.int .i64 (p : Int), .int .i64 0, .int .i64 (n - (x0 : Int))], .bool true]) (by simp [results, Try.results44, go_sem, g0, g1, g2]) rfl ?_
                 exact ⟨back_val HS.out (by have h := HIH.out; have hw := HW.out; rw [show (wide 2 p : Int) = 0 from by omega] at h; exact h), HF.out.below⟩)
              | (have HF := hid (H1.out.set3 (.int .i64 (p : Int)) (.int .i64 ((p : Int) / 2 - 1)) (.int .i64 (n - (x0 : Int))))
                 generalize ((W0.setCell ⟨G, 0, none⟩ (.int .i64 (p : Int))).setCell ⟨G, 1, none⟩ (.int .i64 ((p : Int) / 2 - 1))).setCell ⟨G, 2, none⟩ (.int .i64 (n - (x0 : Int))) = W9 at HF ⊢
                 have g0 : W9.cell? ⟨G, 0, none⟩ = some (.int .i64 (p : Int)) := HF.out.c 0
                 have g1 : W9.cell? ⟨G, 1, none⟩ = some (.int .i64 ((p : Int) / 2 - 1)) := HF.out.c 1
                 have g2 : W9.cell? ⟨G, 2, none⟩ = some (.int .i64 (n - (x0 : Int))) := HF.out.c 2
                 refine bodyPost_ret (v := .tuple #[.agg #[.int .i64 (p : Int), .int .i64 ((p : Int) / 2 - 1), .int .i64 (n - (x0 : Int))], .bool true]) (by simp [results, Try.results44, go_sem, g0, g1, g2]) rfl ?_
                 exact ⟨back_val HS.out (by have h := HIH.out; have hw := HW.out; rw [show (wide 2 p : Int) = ((p : Int) / 2 - 1) from by omega] at h; exact h), HF.out.below⟩)
        · go_wp2_with fail
          go_round
          case rel => exact ⟨p + 1, by omega, by go_num, by rw [HQ.out]; omega⟩
          case measure => simp [intOf]; omega
      · go_wp2_with fail
        go_round
        case rel => exact ⟨p + 1, by omega, by go_num, by have := HL.out; omega⟩
        case measure => simp [intOf]; omega
    · obtain rfl : p = 30 := by omega
      go_wp2_with fail
      have HF := hid (H1.out.set3 (.int .i64 0) (.int .i64 0) (.int .i64 0))
      generalize ((W0.setCell ⟨G, 0, none⟩ (.int .i64 0)).setCell ⟨G, 1, none⟩ (.int .i64 0)).setCell ⟨G, 2, none⟩ (.int .i64 0) = W9 at HF ⊢
      have g0 : W9.cell? ⟨G, 0, none⟩ = some (.int .i64 0) := HF.out.c 0
      have g1 : W9.cell? ⟨G, 1, none⟩ = some (.int .i64 0) := HF.out.c 1
      have g2 : W9.cell? ⟨G, 2, none⟩ = some (.int .i64 0) := HF.out.c 2
      refine bodyPost_ret (v := .tuple #[.agg #[.int .i64 0, .int .i64 0, .int .i64 0], .bool false]) (by simp [results, Try.results44, go_sem, g0, g1, g2]) rfl ?_
      refine ⟨back_val HS.out (.inr ⟨?_, rfl, rfl, rfl, rfl⟩), HF.out.below⟩
      have e : atB 30 = 32769 := rfl
      have h := HL.out
      rw [e] at h
      omega
end Go.Proofs.Ythgjijjalfhhcaa
