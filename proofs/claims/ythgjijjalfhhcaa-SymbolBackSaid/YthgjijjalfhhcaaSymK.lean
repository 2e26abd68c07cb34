/- SymbolBack: the walk. -/
import Derived.Test.YthgjijjalfhhcaaSymN
import Derived.Deep.RegionHeld3
import Derived.Deep.DrawnRows
import Derived.Deep.DeepCutAuto
import Derived.Deep.CutBlock
namespace Go.Proofs.Ythgjijjalfhhcaa
set_option linter.unusedVariables false
open Go.RowKit
open Go.Proofs.Sym
attribute [local go_sem ↓] Go.wp_at_zero Go.wp_at_succ

set_option maxRecDepth 100000 in
set_option maxHeartbeats 2000000 in
theorem walkBack (long back : Int) (w : World) (n0 : 0 ≤ long) (n1 : long ≤ 18446744073709551615) (m0 : 0 ≤ back) (m1 : back ≤ 18446744073709551615) :
    Calls Try.prog 11 #[.int .u64 long, .int .u64 back] w fun e w' => e = .returned (.bool true) ∧ Below w.heap.size w w' := by
  obtain ⟨n, hn⟩ : ∃ n, n = 3 + long % 256 := ⟨_, rfl⟩
  obtain ⟨m, hm⟩ : ∃ m, m = 1 + back % 32768 := ⟨_, rfl⟩
  have hn3 : 3 ≤ n ∧ n ≤ 258 := by omega
  have hm3 : 1 ≤ m ∧ m ≤ 32768 := by omega
  obtain ⟨c, k, q, hl⟩ := long_yes hn3.1 hn3.2
  obtain ⟨d, l, r, hb⟩ := back_yes hm3.1 hm3.2
  obtain ⟨K, hK, rfl, q0, q1⟩ := long_form hl
  obtain ⟨L, hL, rfl, r0, r1⟩ := back_form hb
  have HN := hid hn
  have HM := hid hm
  clear hn hm
  have HL := hid hl
  have HBK := hid hb
  have HLO := hid (show IsLongOf c q n true from .inl ⟨_, hl, rfl⟩)
  have HBO := hid (show IsBackOf d r m true from .inl ⟨_, hb, rfl⟩)
  have HLB := hid (show IsLongBits c (K : Int) from .inl ⟨_, _, hl⟩)
  have HBB := hid (back_k hb)
  have bl := long_bd hl
  have bb := back_bd hb
  obtain ⟨x1, x2, x3, x4, x5, x6, x7, x8⟩ := bl
  obtain ⟨y1, y2, y3, y4, y5, y6, y7, y8⟩ := bb
  clear hl hb
  go_enter Try.func11, Try.ntmps11
  go_wp2_with fail
  rw [← HN.out]
  refine (longSign n c (K : Int) q true _ HL.out (by omega) (by omega)).mono ?_
  rintro e w1 ⟨rfl, hb1⟩
  have H1 := hid hb1
  clear hb1
  go_upto_region 3 with fail
  try rw [← HN.out]
  try rw [← HM.out]
  have H2 := hid (show One w (w1.alloc (.cells #[.int .i64 c, .int .i64 (K : Int), .int .i64 q] 61)) w1.heap.size #[.int .i64 c, .int .i64 (K : Int), .int .i64 q] 61 from ⟨heap_alloc_new _ _, H1.out.alloc H1.out.size _, H1.out.size⟩)
  generalize w1.alloc (.cells #[.int .i64 c, .int .i64 (K : Int), .int .i64 q] 61) = W1 at H2 ⊢
  generalize w1.heap.size = G at H2 ⊢
  clear H1
  go_wp2_with fail
  refine (backSign m d (L : Int) r true _ HBK.out (by omega) (by omega)).mono ?_
  rintro e w2 ⟨rfl, hb2⟩
  have H3 := hid (H2.out.step hb2)
  clear hb2 H2
  go_upto_region 4 with fail
  have H4 := hid (show Both w (w2.alloc (.cells #[.int .i64 d, .int .i64 (L : Int), .int .i64 r] 61)) G w2.heap.size c (K : Int) q d (L : Int) r from ⟨H3.out.alloc (.cells #[.int .i64 d, .int .i64 (L : Int), .int .i64 r] 61), H3.out.next #[.int .i64 d, .int .i64 (L : Int), .int .i64 r] 61⟩)
  generalize w2.alloc (.cells #[.int .i64 d, .int .i64 (L : Int), .int .i64 r] 61) = W2 at H4 ⊢
  generalize w2.heap.size = H at H4 ⊢
  clear H3
  obtain ⟨a0, a1, a2, b0, b1, b2⟩ := H4.out.cells
  go_wp2_with fail
  refine (longOf c q n true _ HLO.out (by omega) (by omega) (by omega) (by omega)).mono ?_
  rintro e w3 ⟨rfl, hb3⟩
  have H5 := hid (H4.out.step hb3)
  clear hb3 H4 a0 a1 a2 b0 b1 b2
  obtain ⟨a0, a1, a2, b0, b1, b2⟩ := H5.out.cells
  go_wp2_with fail
  refine (backOf d r m true _ HBO.out (by omega) (by omega) (by omega) (by omega)).mono ?_
  rintro e w4 ⟨rfl, hb4⟩
  have H6 := hid (H5.out.step hb4)
  clear hb4 H5 a0 a1 a2 b0 b1 b2
  go_upto_region 6 with fail
  have KL := hid (show ∀ W, Calls Try.prog 40 #[.int .i64 c] W fun e w' => e = .returned (.int .i64 (K : Int)) ∧ Below W.heap.size W w' from fun W => longBits c (K : Int) W HLB.out (by omega) (by omega))
  have KB := hid (show ∀ W, Calls Try.prog 47 #[.int .i64 d] W fun e w' => e = .returned (.int .i64 (L : Int)) ∧ Below W.heap.size W w' from fun W => by rw [HBB.out]; exact backBitsP d W (by omega) (by omega))
  obtain ⟨a0, a1, a2, b0, b1, b2⟩ := H6.out.cells
  have z1 : ((2 : Int) ^ K) ≤ 32 := by
    have h := Nat.pow_le_pow_right (show 0 < 2 by decide) hK
    have e : ((2 ^ K : Nat) : Int) = (2 : Int) ^ K := by simp
    rw [← e]; omega
  have z2 : ((2 : Int) ^ L) ≤ 8192 := by
    have h := Nat.pow_le_pow_right (show 0 < 2 by decide) hL
    have e : ((2 ^ L : Nat) : Int) = (2 : Int) ^ L := by simp
    rw [← e]; omega
  have g1 : decide (IntKind.i64.wrap (2 ^ K) ≤ q) = false := by
    rw [decide_eq_false_iff_not, IntKind.wrap_i64]; omega
  have g2 : decide (IntKind.i64.wrap (2 ^ L) ≤ r) = false := by
    rw [decide_eq_false_iff_not, IntKind.wrap_i64]; omega
  clear z1 z2 q1 r1
  go_region_held3 (fun w' => w'.cell? ⟨G, 0, none⟩ = some (.int .i64 c) ∧ w'.cell? ⟨G, 1, none⟩ = some (.int .i64 (K : Int)) ∧ w'.cell? ⟨G, 2, none⟩ = some (.int .i64 q) ∧ w'.cell? ⟨H, 0, none⟩ = some (.int .i64 d) ∧ w'.cell? ⟨H, 1, none⟩ = some (.int .i64 (L : Int)) ∧ w'.cell? ⟨H, 2, none⟩ = some (.int .i64 r)) (first | exact H6.out.cells | exact H6.out.drew.cells | exact H7.out.cells | exact H7.out.drew.cells | exact H8.out.cells | go_keep)
    (first
      | (go_at_call 40; refine (KL.out _).mono ?_; rintro e w5 ⟨rfl, hb5⟩; have H7 := hid (Both.step (by first | exact H6.out | exact H6.out.drew) hb5); clear hb5)
      | (go_at_call 47; refine (KB.out _).mono ?_; rintro e w6 ⟨rfl, hb6⟩; have H8 := hid (Both.step (by first | exact H7.out | exact H7.out.drew) hb6); clear hb6))
  clear KL KB g1 g2 a0 a1 a2 b0 b1 b2 H6 H7
  obtain ⟨c', k', q', o', hx⟩ := long_ex (n + 1)
  have hthree : (o' = true ∧ n < 258 ∧ c' = c) ∨ (o' = true ∧ n < 258 ∧ c' = c + 1 ∧ q' = 0) ∨ (o' = false ∧ n = 258) := by
    cases o' with
    | true =>
      have := long_bd hx
      rcases long_next HL.out (by omega) hx with h | h
      · exact .inl ⟨rfl, by omega, h⟩
      · exact .inr (.inl ⟨rfl, by omega, h⟩)
    | false => exact .inr (.inr ⟨rfl, by have := (long_no hx).1; omega⟩)
  have HX := hid hx
  have H3 := hid hthree
  clear hx hthree
  go_wp2_with fail
  refine (longSign (n + 1) c' k' q' o' _ HX.out (by omega) (by omega)).mono ?_
  rintro e w7 ⟨rfl, hb7⟩
  have H9 := hid (Both.step (by first | exact H8.out | exact H8.out.drew) hb7)
  clear hb7 H8
  go_upto_region 9 with fail
  have HA := hid (H9.out.step ((Below.refl _ _).alloc (Nat.le_refl _) (.cells #[.int .i64 c', .int .i64 k', .int .i64 q'] 61)))
  have HB := hid (H9.out.one.next #[.int .i64 c', .int .i64 k', .int .i64 q'] 61)
  generalize w7.alloc (.cells #[.int .i64 c', .int .i64 k', .int .i64 q'] 61) = W7 at HA HB ⊢
  generalize w7.heap.size = J at HB ⊢
  clear H9
  obtain ⟨a0, a1, a2, b0, b1, b2⟩ := HA.out.cells
  have e0 : W7.cell? ⟨J, 0, none⟩ = some (.int .i64 c') := HB.out.c 0
  have e2 : W7.cell? ⟨J, 2, none⟩ = some (.int .i64 q') := HB.out.c 2
  have HTHREE := H3.out
  rcases HTHREE with ⟨rfl, hlt, rfl⟩ | ⟨rfl, hlt, rfl, rfl⟩ | ⟨rfl, rfl⟩
  all_goals
    clear H3
    go_wp2_with fail
    clear a0 a1 a2 b0 b1 b2 e0 e2 HB
    obtain ⟨d', l', r', o2, hy⟩ := back_ex (m + 1)
    have hthree2 : (o2 = true ∧ m < 32768 ∧ d' = d ∧ r' = r + 1) ∨ (o2 = true ∧ m < 32768 ∧ d' = d + 1 ∧ r' = 0) ∨ (o2 = false ∧ m = 32768) := by
      cases o2 with
      | true =>
        have hd := back_bd hy
        rcases back_next HBK.out hy with h | h
        · exact .inl ⟨rfl, by omega, h⟩
        · exact .inr (.inl ⟨rfl, by omega, h⟩)
      | false => exact .inr (.inr ⟨rfl, by have := (back_no hy).1; omega⟩)
    have HY := hid hy
    have H4 := hid hthree2
    clear hy hthree2
    refine (backSign (m + 1) d' l' r' o2 _ HY.out (by omega) (by omega)).mono ?_
    rintro e w8 ⟨rfl, hb8⟩
    have HC := hid (HA.out.step hb8)
    clear hb8 HA
    go_upto_region 12 with fail
    have HD := hid (HC.out.step ((Below.refl _ _).alloc (Nat.le_refl _) (.cells #[.int .i64 d', .int .i64 l', .int .i64 r'] 61)))
    have HE := hid (HC.out.one.next #[.int .i64 d', .int .i64 l', .int .i64 r'] 61)
    generalize w8.alloc (.cells #[.int .i64 d', .int .i64 l', .int .i64 r'] 61) = W8 at HD HE ⊢
    generalize w8.heap.size = I at HE ⊢
    clear HC
    obtain ⟨a0, a1, a2, b0, b1, b2⟩ := HD.out.cells
    have e0 : W8.cell? ⟨I, 0, none⟩ = some (.int .i64 d') := HE.out.c 0
    have e2 : W8.cell? ⟨I, 2, none⟩ = some (.int .i64 r') := HE.out.c 2
    have HFOUR := H4.out
    rcases HFOUR with ⟨rfl, hlt2, rfl, rfl⟩ | ⟨rfl, hlt2, rfl, rfl⟩ | ⟨rfl, rfl⟩
    all_goals
      clear H4
      go_wp2_with fail
      refine (symLives _).mono ?_
      rintro e w9 ⟨rfl, hb9⟩
      have HF := hid (HD.out.one.below.trans (hb9.mono HD.out.one.below.size))
      clear hb9
      go_wp2_with fail
      go_ret
      exact ⟨rfl, HF.out⟩
end Go.Proofs.Ythgjijjalfhhcaa
