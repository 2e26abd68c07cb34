/- WALKS: symbols written. -/
import Derived.Test.YthgjijjalfhhcaaHbV
import Derived.Test.YthgjijjalfhhcaaHbN
import Derived.Deep.RegionHeld3
namespace Go.Proofs.Ythgjijjalfhhcaa
set_option linter.unusedVariables false
open Go.RowKit
open Go.Proofs.Huf
attribute [local go_sem ↓] Go.wp_at_zero Go.wp_at_succ
namespace Huff

/-- Symbols that have codes. -/
def Valid (M : Nat) (x y : Nat → Int) (t : Nat) : Prop := 0 ≤ y t ∧ y t < (M : Int) ∧ x (natOf y t) ≠ 0

theorem keep_below {G T : Nat} {w w' : World} (h : Below w.heap.size w w') (hG : G ≤ w.heap.size) : Keep G T w w' :=
  ⟨fun j cs t r h1 _ _ => (h.block j (Array.getElem?_eq_some_iff.1 h1).1).trans h1, h.mono hG⟩

set_option maxRecDepth 100000 in
set_option maxHeartbeats 2000000 in
theorem write_bad (A A2 : Option Addr) (b off len cap b2 off2 L cap2 M : Nat) (x y : Nat → Int) (pw : Value) (w : World) (hA : 0 < len → A = some ⟨b, off, none⟩) (hx : Ints w b off len x) (hA2 : 0 < L → A2 = some ⟨b2, off2, none⟩) (hy : Ints w b2 off2 L y)
    (hcodes : ∀ w, Ints w b off len x → Calls Try.prog 14 #[.slice A len cap] w (CodesP (natOf x) M w)) (hM : M ≤ len) (hM3 : M ≤ 300) (hL : L ≤ 9223372036854775807) (hyb : ∀ i, i < L → -9223372036854775808 ≤ y i ∧ y i ≤ 9223372036854775807) (hbad : ¬ ∀ t, t < L → Valid M x y t) :
    Calls Try.prog 23 #[pw, .slice A len cap, .slice A2 L cap2] w fun e w' => e = .returned (.bool false) ∧ Below w.heap.size w w' := by
  have HX := hid hx
  have HY := hid hy
  have HA := hid hA
  have HA2 := hid hA2
  have HC := hid hcodes
  have HBAD := hid hbad
  have HYB := hid hyb
  clear hx hy hA hA2 hcodes hbad hyb
  go_enter Try.func23, Try.ntmps23
  go_wp2_with fail
  refine (HC.out _ HX.out).mono ?_
  rintro e w1 ⟨Q, rfl, hQ, hb1⟩
  have HB := hid hb1
  have HX1 := hid (HX.out.below hb1)
  have HY1 := hid (HY.out.below hb1)
  clear hQ hb1
  go_wp2_with fail
  go_loop [9, 16] (fun _ i => ∃ j : Nat, j ≤ L ∧ i = .int .i64 j ∧ ∀ t, t < j → Valid M x y t) (fun _ i => L - (intOf i).toNat)
  case atStart => exact ⟨0, by omega, rfl, fun t ht => by omega⟩
  case round =>
    obtain ⟨j, hj, rfl, hv⟩ := hrel
    have HV := hid hv
    clear hv
    by_cases hlt : j < L
    · have hA2 := HA2.out (by omega)
      subst hA2
      have a0 := HY1.out.at_ j hlt
      obtain ⟨y0, y1⟩ := HYB.out j hlt
      have HVN := hid (show Valid M x y j → ∀ t, t < j + 1 → Valid M x y t from fun h t ht => by
        by_cases e : t = j
        · rw [e]; exact h
        · exact HV.out t (by omega))
      have HVA := hid (show Valid M x y j ↔ (0 ≤ y j ∧ y j < (M : Int) ∧ x (y j).toNat ≠ 0) from Iff.rfl)
      generalize y j = z at a0 y0 y1 HVA
      by_cases c0 : z < 0
      · have g0 : decide (z < 0) = true := by simpa using c0
        go_wp2_with fail
        go_ret
        exact ⟨rfl, HB.out⟩
      · have g0 : decide (z < 0) = false := by simpa using c0
        by_cases c1 : (M : Int) ≤ z
        · have g1 : decide ((M : Int) ≤ z) = true := by simpa using c1
          go_wp2_with fail
          go_ret
          exact ⟨rfl, HB.out⟩
        · have g1 : decide ((M : Int) ≤ z) = false := by simpa using c1
          obtain ⟨s, rfl⟩ := Int.eq_ofNat_of_zero_le (show 0 ≤ z by omega)
          have hsl : s < len := by omega
          have hA := HA.out (by omega)
          subst hA
          have b0 := HX1.out.at_ s hsl
          rw [Int.toNat_natCast] at HVA
          by_cases hz : x s = 0
          · rw [hz] at b0
            go_wp2_with fail
            go_ret
            exact ⟨rfl, HB.out⟩
          · have HVV := hid (HVN.out (HVA.out.2 ⟨by omega, by omega, hz⟩))
            generalize x s = xs at b0 hz
            have hzb : (xs == 0) = false := by simpa using hz
            clear HVA
            go_wp2_with fail
            go_round
            case rel => exact ⟨j + 1, by omega, by go_num, HVV.out⟩
            case measure => simp [intOf]; omega
    · obtain rfl : j = L := by omega
      exact absurd HV.out HBAD.out

theorem long_nat (n : Nat) (h : n ≤ 15) : longN (n : Int) = n := by unfold longN; omega
theorem many_nat (n : Nat) (h : n ≤ 15) : manyN (n : Int) = n := by unfold manyN; omega

theorem Wt.drew {w : World} {b0 G N n : Nat} (h : Wt w b0 G N n) : Wt w.drew b0 G N n := by
  obtain ⟨a, v, b⟩ := h
  exact ⟨a, v, b.drew⟩
/-- What a symbol's writing leaves of lengths and codes. -/
theorem two_cells {G b off s C N : Nat} {xs : Int} {g : Nat → Nat} {a W : World} (hk : Keep G 5 a W) (hb : b < G) (hC : C ≠ G) (hr : a.heap[C]? = some (.cells (cdV g N N) 23 (0, 0))) (hs : s < N) (hx : a.cell? ⟨b, off + s, none⟩ = some (.int .i64 xs)) :
    W.cell? ⟨b, off + s, none⟩ = some (.int .i64 xs) ∧ W.cell? ⟨C, s, none⟩ = some (.int .u32 (codeAt g N s : Nat)) := by
  refine ⟨(hk.below.cell (p := ⟨b, off + s, none⟩) hb).trans hx, ?_⟩
  have h := hk.others C _ 23 _ hr (by decide) hC
  rw [cell_of_row _ _ _ _ _ _ h, cdV_at _ _ _ _ hs, if_pos hs]

set_option maxRecDepth 100000 in
set_option maxHeartbeats 4000000 in
theorem write_ok (A A2 : Option Addr) (b off N cap b2 off2 L cap2 b0 G : Nat) (x y : Nat → Int) (w : World) (hA : 0 < N → A = some ⟨b, off, none⟩) (hx : Ints w b off N x) (hA2 : 0 < L → A2 = some ⟨b2, off2, none⟩) (hy : Ints w b2 off2 L y)
    (hf : Fine N x) (hk : kindOf (wT (natOf x) N) ≠ 3) (hL : L ≤ 60) (hv : ∀ t, t < L → Valid N x y t) (hW : Wt w b0 G 0 0) (hb0 : b0 ≤ w.heap.size) (hG : 0 < N → b < G) (hG2 : 0 < L → b2 < G) :
    Calls Try.prog 23 #[.pointer (some ⟨G, 0, none⟩), .slice A N cap, .slice A2 L cap2] w fun e w' => e = .returned (.bool true) ∧ Wt w' b0 G (encT (natOf x) N (natOf y) L).1 (encT (natOf x) N (natOf y) L).2 ∧ Keep G 5 w w' := by
  have HX := hid hx
  have HY := hid hy
  have HA := hid hA
  have HA2 := hid hA2
  have HF := hid hf
  have HK := hid hk
  have HV := hid hv
  have HW := hid hW
  have HB0 := hid hb0
  have HG := hid hG
  have HG2 := hid hG2
  have hGl : G < w.heap.size := by obtain ⟨_, v, hR⟩ := hW; exact hR.lt
  clear hx hy hA hA2 hf hk hv hW hb0 hG hG2
  go_enter Try.func23, Try.ntmps23
  go_wp2_with fail
  refine (codes_yes A b off N cap x _ HA.out HX.out HF.out HK.out).mono ?_
  rintro e w1 ⟨C, hC, rfl, hrow, hb1⟩
  have HX1 := hid (HX.out.below hb1)
  have HY1 := hid (HY.out.below hb1)
  have HKP := hid (keep_below (G := G) (T := 5) hb1 (Nat.le_of_lt hGl))
  have HW1 := hid (show Wt w1 b0 G 0 0 from by
    obtain ⟨h1, v, hR⟩ := HW.out
    exact ⟨h1, v, hR.low, (hb1.block G hGl).trans hR.blk, ⟨hR.own.1, by
      rcases hR.own.2 with h | ⟨g, c, cur, a1, a2, a3, a4⟩
      · exact .inl h
      · exact .inr ⟨g, c, cur, a1, a2, (hb1.block g (Array.getElem?_eq_some_iff.1 a3).1).trans a3, a4⟩⟩⟩)
  have HBB := hid (show b0 ≤ w1.heap.size from Nat.le_trans HB0.out hb1.size)
  have HCG := hid (show C ≠ G by omega)
  have HROW := hid hrow
  clear hC hrow hb1
  go_wp2_with fail
  go_loop [9, 16] (fun _ i => ∃ j : Nat, j ≤ L ∧ i = .int .i64 j) (fun _ i => L - (intOf i).toNat)
  case atStart => exact ⟨0, by omega, rfl⟩
  case round =>
    obtain ⟨j, hj, rfl⟩ := hrel
    by_cases hlt : j < L
    · have hA2 := HA2.out (by omega)
      subst hA2
      have a0 := HY1.out.at_ j hlt
      obtain ⟨v1, v2, v3⟩ := HV.out j hlt
      unfold natOf at v3
      generalize y j = z at a0 v1 v2 v3
      obtain ⟨s, rfl⟩ := Int.eq_ofNat_of_zero_le v1
      have hsl : s < N := by omega
      have hA := HA.out (by omega)
      subst hA
      have d0 := HX1.out.at_ s hsl
      rw [Int.toNat_natCast] at v3
      generalize x s = xs at d0 v3
      have hzb : (xs == 0) = false := by simpa using v3
      have g0 : decide ((s : Int) < 0) = false := by rw [decide_eq_false_iff_not]; omega
      have g1 : decide ((N : Int) ≤ (s : Int)) = false := by rw [decide_eq_false_iff_not]; omega
      go_wp2_with fail
      go_round
      case rel => exact ⟨j + 1, by omega, by go_num⟩
      case measure => simp [intOf]; omega
    · obtain rfl : j = L := by omega
      go_wp2_with fail
      go_loopw [11, 38] (fun _ i wr => ∃ k : Nat, k ≤ j ∧ i = .int .i64 k ∧ Wt wr b0 G (encT (natOf x) N (natOf y) k).1 (encT (natOf x) N (natOf y) k).2 ∧ Keep G 5 w1 wr ∧ b0 ≤ wr.heap.size) (fun _ i _ => j - (intOf i).toNat)
      case atStart => exact ⟨0, by omega, rfl, HW1.out, Keep.refl _ _ _, HBB.out⟩
      case round =>
        obtain ⟨k, hkj, rfl, hwt, hkp, hbz⟩ := hrel
        have HWT := hid hwt
        have HKK := hid hkp
        have HBZ := hid hbz
        clear hwt hkp hbz
        by_cases hkl : k < j
        · have hA2 := HA2.out (by omega)
          subst hA2
          have a0 : wr.cell? ⟨b2, off2 + k, none⟩ = some (.int .i64 (y k)) := (HKK.out.below.cell (p := ⟨b2, off2 + k, none⟩) (HG2.out (by omega))).trans (HY1.out.at_ k hkl)
          obtain ⟨v1, v2, v3⟩ := HV.out k hkl
          have HNY := hid (show natOf y k = (y k).toNat from rfl)
          unfold natOf at v3
          generalize y k = z at a0 v1 v2 v3 HNY
          obtain ⟨s, rfl⟩ := Int.eq_ofNat_of_zero_le v1
          have hsl : s < N := by omega
          have hA := HA.out (by omega)
          subst hA
          have d0 : wr.cell? ⟨b, off + s, none⟩ = some (.int .i64 (x s)) := (HKK.out.below.cell (p := ⟨b, off + s, none⟩) (HG.out (by omega))).trans (HX1.out.at_ s hsl)
          have hcrow := HKK.out.others C _ 23 _ HROW.out (by decide) HCG.out
          have e0 : wr.cell? ⟨C, s, none⟩ = some (.int .u32 (codeAt (natOf x) N s : Nat)) := by rw [cell_of_row _ _ _ _ _ _ hcrow, cdV_at _ _ _ _ hsl, if_pos hsl]
          obtain ⟨x0, x1⟩ := HF.out.2 s hsl
          have hcb := codeAt_bd (natOf x) N s HF.out.1 (by omega) (by unfold natOf; omega)
          have HTW := hid (fun (W : World) (h : Keep G 5 w1 W) => two_cells (off := off) h (HG.out (by omega)) HCG.out HROW.out hsl (HX1.out.at_ s hsl))
          have HNX := hid (show natOf x s = (x s).toNat from rfl)
          rw [Int.toNat_natCast] at v3
          generalize x s = xs at d0 v3 x0 x1 HNX HTW
          obtain ⟨n, rfl⟩ := Int.eq_ofNat_of_zero_le x0
          have hn15 : n ≤ 15 := by omega
          have HEN1 := hid (show (encT (natOf x) N (natOf y) (k + 1)).1 = (encT (natOf x) N (natOf y) k).1 + 2 ^ (encT (natOf x) N (natOf y) k).2 * (turn (codeAt (natOf x) N s) n % 2 ^ n) from by
            rw [enc_one, HNY.out, Int.toNat_natCast, HNX.out, Int.toNat_natCast])
          have HEN2 := hid (show (encT (natOf x) N (natOf y) (k + 1)).2 = (encT (natOf x) N (natOf y) k).2 + n from by
            rw [enc_two, HNY.out, Int.toNat_natCast, HNX.out, Int.toNat_natCast])
          have hel : (encT (natOf x) N (natOf y) k).2 ≤ 15 * k := enc_le _ _ _ k (fun t ht => by
            have hh := HV.out t (by omega)
            have h2 := HF.out.2 (natOf y t) (by have := hh.1; have := hh.2.1; unfold natOf; omega)
            unfold natOf at h2 ⊢
            omega)
          generalize codeAt (natOf x) N s = c at e0 hcb HEN1 HTW
          have HTU := hid (fun W => turned c (n : Int) W (by omega) (by omega) (by omega))
          rw [long_nat n hn15] at HTU
          have htl : turn c n < 4294967296 := Nat.lt_of_lt_of_le (turn_lt c n) (Nat.le_trans (Nat.pow_le_pow_right (by decide) hn15) (by decide))
          have HWB := hid (fun W (hw : Wt W b0 G (encT (natOf x) N (natOf y) k).1 (encT (natOf x) N (natOf y) k).2) (hz : b0 ≤ W.heap.size) => wbits b0 G _ _ (turn c n) (n : Int) W hw hz htl (by omega) (by omega) (by omega))
          rw [many_nat n hn15] at HWB
          generalize encT (natOf x) N (natOf y) k = E at HWT HEN1 HEN2 HWB hel
          have sN : (s : Int) < (N : Int) := by omega
          clear hcb hel hcrow
          go_upto_region 11 with fail
          go_region_held3 (fun w' => w'.cell? ⟨b, off + s, none⟩ = some (.int .i64 (n : Int)) ∧ w'.cell? ⟨C, s, none⟩ = some (.int .u32 (c : Int))) (first | exact ⟨d0, e0⟩ | exact HS6.out | go_keep)
            (first
              | (go_at_call 18; refine (HTU.out _).mono ?_; rintro e w5 ⟨rfl, rfl⟩)
              | (go_at_call 60; refine (HWB.out wr.drew HWT.out.drew HBZ.out).mono ?_; rintro e w6 ⟨rfl, h1, h2⟩; have H1 := hid h1; have H2 := hid (HKK.out.drew.trans h2); have HS6 := hid (HTW.out _ H2.out); clear h1 h2))
          go_wp2_with fail
          go_roundw
          case rel => exact ⟨k + 1, by omega, by go_num, by rw [HEN1.out, HEN2.out]; first | exact H1.out | exact H1.out.drew, by first | exact H2.out | exact H2.out.drew, Nat.le_trans HBB.out H2.out.below.size⟩
          case measure => simp [intOf]; omega
        · go_wp2_with fail
          obtain rfl : k = j := by omega
          go_ret
          exact ⟨rfl, HWT.out, HKP.out.trans HKK.out⟩
end Huff
end Go.Proofs.Ythgjijjalfhhcaa
