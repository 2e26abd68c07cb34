/- HuffBack: the walk, where there are codes. -/
import Derived.Test.YthgjijjalfhhcaaHbD
namespace Go.Proofs.Ythgjijjalfhhcaa
set_option linter.unusedVariables false
open Go.RowKit
open Go.Proofs.Huf
attribute [local go_sem ↓] Go.wp_at_zero Go.wp_at_succ
namespace Huff

theorem make_i64 (n : Nat) (hn : n ≤ 300) (w : World) : (Instr.makeSlice 22 (.int .i64 (n : Int)) (.int .i64 (n : Int))).run Try.prog w = .ok (.slice (some ⟨w.heap.size, 0, none⟩) n n) (w.alloc (.cells (rowV (fun _ => .int .i64 0) n) 3)) := by
  obtain ⟨i0, hi, hz0, hz1, hz2⟩ := info_parts infoI
  have h := run_make (P := Try.prog) w 22 3 i0 (.int .i64 0) und22' hi hz0 .i64 .i64 n n (by omega) (Int.le_refl _) (by rw [hz2]; omega) (by omega)
  rw [hz1, Int.toNat_natCast, Nat.mul_one] at h
  rw [← made_row]
  exact h

/-- How often each symbol came among the first k. -/
def mnV (s : Nat → Nat) (N k : Nat) : Array Value := rowV (fun i => .int .i64 (manyT s k i : Nat)) N
theorem mnV_start (s : Nat → Nat) (N : Nat) : rowV (fun _ => .int .i64 0) N = mnV s N 0 := rowV_congr (fun _ _ => rfl)
theorem mnV_at (s : Nat → Nat) (N k i : Nat) (h : i < N) : (mnV s N k)[i]? = some (.int .i64 (manyT s k i : Nat)) := rowV_at _ _ _ h
theorem mnV_next (s : Nat → Nat) (N k : Nat) : (mnV s N k).setIfInBounds (s k) (.int .i64 ((manyT s k (s k) : Nat) + 1 : Int)) = mnV s N (k + 1) := by
  unfold mnV
  rw [rowV_set]
  apply rowV_congr
  intro i hi
  by_cases e : i = s k
  · subst e
    rw [if_pos rfl]
    exact val_int (by simp only [manyT]; rw [if_pos trivial]; omega)
  · rw [if_neg e]
    exact val_int (by simp only [manyT]; rw [if_neg (fun h => e h.symm)]; omega)

/-- What no code begins: as the law asks it. -/
theorem not_prefix {g : Nat → Nat} {N i j : Nat} (hi : i < N) (hj : j < N) (hne : i ≠ j) (h0 : g i ≠ 0) (hle : g i ≤ g j) : (((codeAt g N j : Nat) : Int) / 2 ^ (g j - g i) == ((codeAt g N i : Nat) : Int)) = false := by
  have h : codeAt g N j / 2 ^ (g j - g i) ≠ codeAt g N i := fun h => hne (prefix_free hi hj h0 hle h)
  have e : (((codeAt g N j : Nat) : Int) / 2 ^ (g j - g i)) = ((codeAt g N j / 2 ^ (g j - g i) : Nat) : Int) := by simp
  rw [e]
  simp only [beq_eq_false_iff_ne, ne_eq]
  omega

/-- A row that the law makes for itself. -/
structure Mny (w W : World) (B : Nat) (c : Array Value) : Prop where
  blk : W.heap[B]? = some (.cells c 3 (0, 0))
  below : Below w.heap.size w W
  low : w.heap.size ≤ B
theorem Mny.set {w W : World} {B : Nat} {c : Array Value} (h : Mny w W B c) (n : Nat) (v : Value) : Mny w (W.setCell ⟨B, n, none⟩ v) B (c.setIfInBounds n v) :=
  ⟨heap_setCell_same _ _ _ _ _ _ h.blk, h.below.setCell h.low v, h.low⟩

theorem bytes_facts (N n : Nat) (h : N < 2 ^ n) : numS (bytesB N n) = N ∧ (bytesB N n).size = (n + 7) / 8 := by
  refine ⟨?_, ?_⟩
  · unfold numS bytesB
    have e : (⟨(Bit.putL N ((n + 7) / 8)).toArray⟩ : ByteArray).data.toList = Bit.putL N ((n + 7) / 8) := rfl
    rw [e, num_put]
    apply Nat.mod_eq_of_lt
    refine Nat.lt_of_lt_of_le h ?_
    rw [Huf.p256]
    exact Nat.pow_le_pow_right (by decide) (by omega)
  · show (Bit.putL N ((n + 7) / 8)).toArray.size = _
    rw [List.size_toArray, Bit.putL_length]
/-- What is known of a symbol that has a code. -/
theorem valid_facts {len : Nat} {x y : Nat → Int} {t : Nat} (hf : Fine len x) (hk : kindOf (wT (natOf x) len) ≠ 3) (h : Valid len x y t) :
    natOf y t < len ∧ natOf x (natOf y t) ≠ 0 ∧ natOf x (natOf y t) ≤ 15 ∧ codeAt (natOf x) len (natOf y t) < 2 ^ natOf x (natOf y t) ∧ y t = (natOf y t : Int) := by
  obtain ⟨a, b, c⟩ := h
  have hs : natOf y t < len := by unfold natOf; omega
  obtain ⟨d, e⟩ := hf.2 _ hs
  have h0 : natOf x (natOf y t) ≠ 0 := by unfold natOf at c d e ⊢; omega
  have h15 : natOf x (natOf y t) ≤ 15 := by unfold natOf at d e ⊢; omega
  have hw : rT (natOf x) len 16 ≤ 32768 := by
    rw [rT_wT (natOf x) len (fun i hi => by have := hf.2 i hi; unfold natOf; omega)]
    unfold kindOf at hk
    by_cases z : wT (natOf x) len ≤ 32768
    · exact z
    · rw [if_neg (by omega), if_neg (by omega), if_neg (by omega)] at hk
      exact absurd rfl hk
  exact ⟨hs, h0, h15, code_lt hw hs h0 h15, by unfold natOf; omega⟩

theorem below_drewN' {B : Nat} {a W : World} (h : Below B a W) (n : Nat) : Below B a (W.drewN n) := ⟨h.os, h.tape, h.output, h.size, h.block⟩

set_option maxRecDepth 100000 in
set_option maxHeartbeats 4000000 in
theorem walkBack_yes (A A2 : Option Addr) (b off len cap b2 off2 L cap2 : Nat) (x y : Nat → Int) (w : World) (hA : 0 < len → A = some ⟨b, off, none⟩) (hx : Ints w b off len x) (hA2 : 0 < L → A2 = some ⟨b2, off2, none⟩) (hy : Ints w b2 off2 L y) (hm2 : L ≤ 9223372036854775807)
    (hyb : ∀ i, i < L → -9223372036854775808 ≤ y i ∧ y i ≤ 9223372036854775807) (hf : Fine len x) (hk : kindOf (wT (natOf x) len) ≠ 3) :
    Calls Try.prog 5 #[.slice A len cap, .slice A2 L cap2] w fun e w' => e = .returned (.bool true) ∧ Below w.heap.size w w' := by
  have HX := hid hx
  have HA := hid hA
  have HY := hid hy
  have HA2 := hid hA2
  have HYB := hid hyb
  have HF := hid hf
  have HK := hid hk
  have hlen := hf.1
  clear hx hA hy hA2 hyb hf hk
  by_cases h60 : 60 < len ∨ 60 < L
  · have hg : decide (60 < (len : Int)) = true ∨ (decide (60 < (len : Int)) = false ∧ decide (60 < (L : Int)) = true) := by
      by_cases c : 60 < len
      · exact .inl (by rw [decide_eq_true_iff]; omega)
      · exact .inr ⟨by rw [decide_eq_false_iff_not]; omega, by rw [decide_eq_true_iff]; omega⟩
    clear h60
    rcases hg with h | ⟨h, h'⟩
    all_goals
      go_enter Try.func5, Try.ntmps5
      go_wp2_with fail
      refine (lives _).mono ?_
      rintro e w1 ⟨rfl, hb1⟩
      have H1 := hid hb1
      clear hb1
      go_wp2_with fail
      go_ret
      exact ⟨rfl, H1.out⟩
  · have h1 : decide (60 < (len : Int)) = false := by rw [decide_eq_false_iff_not]; omega
    have h2 : decide (60 < (L : Int)) = false := by rw [decide_eq_false_iff_not]; omega
    have hL60 : L ≤ 60 := by omega
    clear h60
    go_enter Try.func5, Try.ntmps5
    go_wp2_with fail
    refine (codes_yes A b off len cap x _ HA.out HX.out HF.out HK.out).mono ?_
    rintro e w1 ⟨C, hC, rfl, hrow, hb1⟩
    have H1 := hid hb1
    have HX1 := hid (HX.out.below hb1)
    have HY1 := hid (HY.out.below hb1)
    have HROW := hid hrow
    clear hb1 hC hrow
    go_wp2_with fail
    refine (kind_yes A b off len cap x _ HA.out HX1.out HF.out).mono ?_
    rintro e w2 ⟨rfl, hb2⟩
    have H2 := hid (H1.out.trans (hb2.mono H1.out.size))
    have HX2 := hid (HX1.out.below hb2)
    have HY2 := hid (HY1.out.below hb2)
    have HROW2 := hid ((hb2.block C (Array.getElem?_eq_some_iff.1 HROW.out).1).trans HROW.out)
    clear hb2 H1 HX1 HY1 HROW
    obtain ⟨kd, hkd⟩ : ∃ kd, kd = kindOf (wT (natOf x) len) := ⟨_, rfl⟩
    rw [← hkd]
    have HKD := hid hkd
    have hk3 : ((kd : Int) == 3) = false := by have := HK.out; simp; omega
    clear hkd
    go_wp2_with fail
    go_loopw [4, 7, 8, 57, 62] (fun _ _ _ i _ wr => ∃ n k : Nat, n ≤ len ∧ i = .int .i64 n ∧ wr = w2.drewN k) (fun _ _ _ i _ _ => len - (intOf i).toNat)
    case atStart => exact ⟨0, 0, by omega, rfl, rfl⟩
    case round =>
      obtain ⟨n, k, hn, rfl, hw⟩ := hrel
      have HWR := hid hw
      clear hw
      by_cases hlt : n < len
      · go_wp2_with fail
        obtain ⟨wo, hwo⟩ : ∃ wo : World, wo = wr := ⟨_, rfl⟩
        subst hwo
        go_loopw [4, 8, 62] (fun _ _ i wq => ∃ m k : Nat, m ≤ len ∧ i = .int .i64 m ∧ wq = w2.drewN k) (fun _ _ i _ => len - (intOf i).toNat)
        case atStart => exact ⟨0, k, by omega, rfl, HWR.out⟩
        case round =>
          obtain ⟨m, k2, hm, rfl, hw2⟩ := hrel
          have HW2 := hid hw2
          by_cases hml : m < len
          · have hA := HA.out (by omega)
            subst hA
            have a0 : wr.cell? ⟨b, off + n, none⟩ = some (.int .i64 (x n)) := by rw [hw2]; exact HX2.out.at_ n hlt
            have a1 : wr.cell? ⟨b, off + m, none⟩ = some (.int .i64 (x m)) := by rw [hw2]; exact HX2.out.at_ m hml
            have hrw : wr.heap[C]? = some (.cells (cdV (natOf x) len len) 23 (0, 0)) := by rw [hw2]; exact HROW2.out
            have d0 : wr.cell? ⟨C, n, none⟩ = some (.int .u32 (codeAt (natOf x) len n : Nat)) := by rw [cell_of_row _ _ _ _ _ _ hrw, cdV_at _ _ _ _ hlt, if_pos hlt]
            have d1 : wr.cell? ⟨C, m, none⟩ = some (.int .u32 (codeAt (natOf x) len m : Nat)) := by rw [cell_of_row _ _ _ _ _ _ hrw, cdV_at _ _ _ _ hml, if_pos hml]
            obtain ⟨x0, x1⟩ := HF.out.2 n hlt
            obtain ⟨z0, z1⟩ := HF.out.2 m hml
            have HNP := hid (not_prefix (g := natOf x) (N := len) (i := n) (j := m) hlt hml)
            have hnx : natOf x n = (x n).toNat := rfl
            have hnz : natOf x m = (x m).toNat := rfl
            rw [hnx, hnz] at HNP
            clear hw2 hrw hnx hnz
            by_cases hnm : n = m
            · have gnm : ((n : Int) == (m : Int)) = true := by simp; omega
              have gnm2 : (n == m) = true := by simp; omega
              go_upto_region 15 with fail
              go_quiet (fail)
              go_wp2_with fail
              go_roundw
              case rel => exact ⟨m + 1, k2 + nq, by omega, by go_num, by rw [HW2.out]; exact drewN_two _ _ _⟩
              case measure => simp [intOf]; omega
            · have gnm : ((n : Int) == (m : Int)) = false := by simp; omega
              have gnm2 : (n == m) = false := by simp; omega
              have gnm3 : ((n : Int) != (m : Int)) = true := by simp; omega
              have gnm4 : (n != m) = true := by simp; omega
              generalize codeAt (natOf x) len n = ci at d0 HNP
              generalize codeAt (natOf x) len m = cj at d1 HNP
              generalize x n = xi at a0 x0 x1 HNP
              generalize x m = xj at a1 z0 z1 HNP
              obtain ⟨li, rfl⟩ := Int.eq_ofNat_of_zero_le x0
              obtain ⟨lj, rfl⟩ := Int.eq_ofNat_of_zero_le z0
              rw [Int.toNat_natCast, Int.toNat_natCast] at HNP
              by_cases hl0 : li = 0
              · subst hl0
                go_upto_region 15 with fail
                go_quiet (fail)
                go_wp2_with fail
                go_roundw
                case rel => exact ⟨m + 1, k2 + nq, by omega, by go_num, by rw [HW2.out]; exact drewN_two _ _ _⟩
                case measure => simp [intOf]; omega
              · have p0 : decide ((0 : Int) < (li : Int)) = true := by rw [decide_eq_true_iff]; omega
                have p0n : decide (0 < li) = true := by rw [decide_eq_true_iff]; omega
                by_cases hle : li ≤ lj
                · have p1 : decide ((li : Int) ≤ (lj : Int)) = true := by rw [decide_eq_true_iff]; omega
                  have p1n : decide (li ≤ lj) = true := by rw [decide_eq_true_iff]; omega
                  have hnp := HNP.out hnm hl0 hle
                  have q0 : IntKind.i64.wrap ((lj : Int) - (li : Int)) = ((lj - li : Nat) : Int) := by rw [IntKind.wrap_i64]; omega
                  have hdd : lj - li ≤ 32 := by omega
                  generalize lj - li = d at q0 hnp hdd
                  have hmin : min d 32 = d := by omega
                  clear HNP hdd
                  go_upto_region 15 with fail
                  go_quiet (fail)
                  go_wp2_with fail
                  go_roundw
                  case rel => exact ⟨m + 1, k2 + nq, by omega, by go_num, by rw [HW2.out]; exact drewN_two _ _ _⟩
                  case measure => simp [intOf]; omega
                · have p1 : decide ((li : Int) ≤ (lj : Int)) = false := by rw [decide_eq_false_iff_not]; omega
                  have p1n : decide (li ≤ lj) = false := by rw [decide_eq_false_iff_not]; omega
                  clear HNP
                  go_upto_region 15 with fail
                  go_quiet (fail)
                  go_wp2_with fail
                  go_roundw
                  case rel => exact ⟨m + 1, k2 + nq, by omega, by go_num, by rw [HW2.out]; exact drewN_two _ _ _⟩
                  case measure => simp [intOf]; omega
          · go_wp2_with fail
            go_roundw
            case rel => exact ⟨n + 1, k2, by omega, by go_num, rfl⟩
            case measure => simp [intOf]; omega
      · have HX3 := hid (show Ints wr b off len x from by rw [HWR.out]; exact ⟨HX2.out.lt, HX2.out.at_⟩)
        have HY3 := hid (show Ints wr b2 off2 L y from by rw [HWR.out]; exact ⟨HY2.out.lt, HY2.out.at_⟩)
        have H3 := hid (show Below w.heap.size w wr from by rw [HWR.out]; exact below_drewN' H2.out k)
        clear HWR HX2 HY2 H2 HROW2
        have hmk := make_i64 len hlen wr
        go_wp2_with fail
        have HMN := hid (show Mny w (wr.alloc (.cells (rowV (fun _ => .int .i64 0) len) 3)) wr.heap.size (mnV (natOf y) len 0) from
          ⟨by rw [← mnV_start]; exact heap_alloc_new _ _, H3.out.alloc H3.out.size _, H3.out.size⟩)
        have HBW := hid (show Below wr.heap.size wr (wr.alloc (.cells (rowV (fun _ => .int .i64 0) len) 3)) from (Below.refl _ _).alloc (Nat.le_refl _) _)
        have hsz := hid (show wr.heap.size < (wr.alloc (.cells (rowV (fun _ => .int .i64 0) len) 3)).heap.size from by simp)
        generalize wr.alloc (.cells (rowV (fun _ => .int .i64 0) len) 3) = W4 at HMN HBW hsz ⊢
        have HX4 := hid (HX3.out.below HBW.out)
        have HY4 := hid (HY3.out.below HBW.out)
        have HBl := hid (fun (h : 0 < len) => HX3.out.lt h)
        have HBl2 := hid (fun (h : 0 < L) => HY3.out.lt h)
        generalize wr.heap.size = B at HMN hsz HBl HBl2 ⊢
        clear HX3 HY3 H3 hmk HBW
        go_loopw [9, 12, 114] (fun al _ i wq => ∃ j : Nat, j ≤ L ∧ i = .int .i64 j ∧ Below B W4 wq ∧ ((al = .bool true ∧ (∀ t, t < j → Valid len x y t) ∧ Mny w wq B (mnV (natOf y) len j)) ∨ (al = .bool false ∧ (¬ ∀ t, t < L → Valid len x y t) ∧ ∃ c, Mny w wq B c))) (fun _ _ i _ => L - (intOf i).toNat)
        case atStart => exact ⟨0, by omega, rfl, Below.refl _ _, .inl ⟨rfl, fun t ht => by omega, HMN.out⟩⟩
        case round =>
          obtain ⟨j, hj, rfl, hbq, hcase⟩ := hrel
          have HBQ := hid hbq
          have HCASE := hid hcase
          clear hbq hcase HMN
          by_cases hjl : j < L
          · have hA2 := HA2.out (by omega)
            subst hA2
            have a0 : wr.cell? ⟨b2, off2 + j, none⟩ = some (.int .i64 (y j)) := (HBQ.out.cell (p := ⟨b2, off2 + j, none⟩) (HBl2.out (by omega))).trans (HY4.out.at_ j hjl)
            rcases HCASE.out with ⟨rfl, hv, hmn⟩ | ⟨rfl, hv, c, hmn⟩
            · have HV := hid hv
              have HM := hid hmn
              clear hv hmn HCASE
              obtain ⟨yy0, yy1⟩ := HYB.out j hjl
              have HVA := hid (show Valid len x y j ↔ (0 ≤ y j ∧ y j < (len : Int) ∧ x (y j).toNat ≠ 0) from Iff.rfl)
              have HNB := hid (show ¬ Valid len x y j → ¬ ∀ t, t < L → Valid len x y t from fun h hh => h (hh j hjl))
              have HVN := hid (show Valid len x y j → ∀ t, t < j + 1 → Valid len x y t from fun h t ht => by
                by_cases e : t = j
                · rw [e]; exact h
                · exact HV.out t (by omega))
              have HMX := hid (mnV_next (natOf y) len j)
              have hny : natOf y j = (y j).toNat := rfl
              rw [hny] at HMX
              clear hny HV
              generalize y j = z at a0 yy0 yy1 HVA HMX
              by_cases c0 : z < 0
              · have g0 : decide (0 ≤ z) = false := by rw [decide_eq_false_iff_not]; omega
                have HNV := hid (HNB.out (fun h => by have := (HVA.out.1 h).1; omega))
                go_wp2_with fail
                go_roundw
                case rel => exact ⟨j + 1, by omega, by go_num, HBQ.out, .inr ⟨rfl, HNV.out, _, HM.out⟩⟩
                case measure => simp [intOf]; omega
              · have g0 : decide (0 ≤ z) = true := by rw [decide_eq_true_iff]; omega
                by_cases c1 : z < (len : Int)
                · have g1 : decide (z < (len : Int)) = true := by rw [decide_eq_true_iff]; omega
                  obtain ⟨s, rfl⟩ := Int.eq_ofNat_of_zero_le (show 0 ≤ z by omega)
                  rw [Int.toNat_natCast] at HVA HMX
                  have hsl : s < len := by omega
                  have hA := HA.out (by omega)
                  subst hA
                  have d0 : wr.cell? ⟨b, off + s, none⟩ = some (.int .i64 (x s)) := (HBQ.out.cell (p := ⟨b, off + s, none⟩) (HBl.out (by omega))).trans (HX4.out.at_ s hsl)
                  obtain ⟨x0, x1⟩ := HF.out.2 s hsl
                  by_cases hz : x s = 0
                  · have HNV := hid (HNB.out (fun h => (HVA.out.1 h).2.2 hz))
                    rw [hz] at d0
                    go_wp2_with fail
                    go_roundw
                    case rel => exact ⟨j + 1, by omega, by go_num, HBQ.out, .inr ⟨rfl, HNV.out, _, HM.out⟩⟩
                    case measure => simp [intOf]; omega
                  · have HVY := hid (HVN.out (HVA.out.2 ⟨by omega, by omega, hz⟩))
                    have g2 : decide (0 < x s) = true := by rw [decide_eq_true_iff]; omega
                    have m0 : wr.cell? ⟨B, s, none⟩ = some (.int .i64 (manyT (natOf y) j s : Nat)) := by rw [cell_of_row _ _ _ _ _ _ HM.out.blk]; exact mnV_at _ _ _ _ hsl
                    have f0 : wr.frozen? ⟨B, s, none⟩ = false := frozen_of_row _ _ _ _ _ HM.out.blk
                    have hml := manyT_le (natOf y) s j
                    generalize x s = xs at d0 g2 x0 x1 hz
                    generalize manyT (natOf y) j s = q at m0 hml HMX
                    have hq : (q : Int) ≤ 60 := by omega
                    clear HVA HVN HNB hz hml
                    go_wp2_with fail
                    go_roundw
                    case rel => exact ⟨j + 1, by omega, by go_num, HBQ.out.setCell (Nat.le_refl _) _, .inl ⟨rfl, HVY.out, by rw [← HMX.out]; exact HM.out.set s _⟩⟩
                    case measure => simp [intOf]; omega
                · have g1 : decide (z < (len : Int)) = false := by rw [decide_eq_false_iff_not]; omega
                  have HNV := hid (HNB.out (fun h => c1 (HVA.out.1 h).2.1))
                  go_wp2_with fail
                  go_roundw
                  case rel => exact ⟨j + 1, by omega, by go_num, HBQ.out, .inr ⟨rfl, HNV.out, _, HM.out⟩⟩
                  case measure => simp [intOf]; omega
            · have HV := hid hv
              have HM := hid hmn
              clear hv hmn HCASE
              go_wp2_with fail
              go_roundw
              case rel => exact ⟨j + 1, by omega, by go_num, HBQ.out, .inr ⟨rfl, HV.out, _, HM.out⟩⟩
              case measure => simp [intOf]; omega
          · obtain rfl : j = L := by omega
            have hGw := hid (wt_new wr)
            have HBG := hid (show Below wr.heap.size wr (wr.alloc (.cells #[.slice none 0 0, .int .u64 0, .int .i64 0] 47)) from (Below.refl _ _).alloc (Nat.le_refl _) _)
            have hGs := hid (show (wr.alloc (.cells #[.slice none 0 0, .int .u64 0, .int .i64 0] 47)).heap.size = wr.heap.size + 1 from by simp)
            rcases HCASE.out with ⟨rfl, hv, hmn⟩ | ⟨rfl, hv, c, hmn⟩
            · have HV := hid hv
              have HM := hid hmn
              have hBG : B < wr.heap.size := (Array.getElem?_eq_some_iff.1 hmn.blk).1
              clear hv hmn HCASE
              go_wp2_with fail
              have HX5 := hid (show Ints (wr.alloc (.cells #[.slice none 0 0, .int .u64 0, .int .i64 0] 47)) b off len x from
                ⟨fun h => by have := HBl.out h; have := hGs.out; omega, fun i hi => (HBG.out.cell (p := ⟨b, off + i, none⟩) (by have := HBl.out (by omega); show b < wr.heap.size; omega)).trans ((HBQ.out.cell (p := ⟨b, off + i, none⟩) (HBl.out (by omega))).trans (HX4.out.at_ i hi))⟩)
              have HY5 := hid (show Ints (wr.alloc (.cells #[.slice none 0 0, .int .u64 0, .int .i64 0] 47)) b2 off2 j y from
                ⟨fun h => by have := HBl2.out h; have := hGs.out; omega, fun i hi => (HBG.out.cell (p := ⟨b2, off2 + i, none⟩) (by have := HBl2.out (by omega); show b2 < wr.heap.size; omega)).trans ((HBQ.out.cell (p := ⟨b2, off2 + i, none⟩) (HBl2.out (by omega))).trans (HY4.out.at_ i hi))⟩)
              have HB5 := hid (show Below w.heap.size w (wr.alloc (.cells #[.slice none 0 0, .int .u64 0, .int .i64 0] 47)) from HM.out.below.trans (HBG.out.mono HM.out.below.size))
              have HR5 := hid (show (wr.alloc (.cells #[.slice none 0 0, .int .u64 0, .int .i64 0] 47)).heap[B]? = some (.cells (mnV (natOf y) len j) 3 (0, 0)) from (HBG.out.block B hBG).trans HM.out.blk)
              have hwG := hid (show w.heap.size ≤ wr.heap.size from HM.out.below.size)
              generalize wr.alloc (.cells #[.slice none 0 0, .int .u64 0, .int .i64 0] 47) = W5 at hGw HX5 HY5 HB5 HR5 hGs ⊢
              generalize wr.heap.size = G at hGw hBG hwG hGs ⊢
              clear HBG HX4 HY4 HBQ HM
              refine (write_ok A A2 b off len cap b2 off2 j cap2 (G + 1) G x y _ HA.out HX5.out HA2.out HY5.out HF.out HK.out hL60 HV.out hGw.out (by rw [hGs.out]; exact Nat.le_refl _) (fun h => Nat.lt_trans (HBl.out h) hBG) (fun h => Nat.lt_trans (HBl2.out h) hBG)).mono ?_
              rintro e w6 ⟨rfl, hw6, hk6⟩
              have HW6 := hid hw6
              have HX6 := hid (show Ints w6 b off len x from ⟨fun h => Nat.lt_of_lt_of_le (HX5.out.lt h) hk6.below.size, fun i hi => (hk6.below.cell (p := ⟨b, off + i, none⟩) (Nat.lt_trans (HBl.out (by omega)) hBG)).trans (HX5.out.at_ i hi)⟩)
              have HY6 := hid (show Ints w6 b2 off2 j y from ⟨fun h => Nat.lt_of_lt_of_le (HY5.out.lt h) hk6.below.size, fun i hi => (hk6.below.cell (p := ⟨b2, off2 + i, none⟩) (Nat.lt_trans (HBl2.out (by omega)) hBG)).trans (HY5.out.at_ i hi)⟩)
              have HB6 := hid (show Below w.heap.size w w6 from HB5.out.trans (hk6.below.mono hwG.out))
              have HR6 := hid (show w6.heap[B]? = some (.cells (mnV (natOf y) len j) 3 (0, 0)) from (hk6.below.block B hBG).trans HR5.out)
              have HEL := hid (enc_lt (natOf x) len (natOf y) j)
              have HVF := hid (fun t (ht : t < j) => valid_facts HF.out HK.out (HV.out t ht))
              have HE9 := hid (enc_le (natOf x) len (natOf y) j (fun t ht => (HVF.out t ht).2.2.1))
              clear hw6 hk6 HX5 HY5 HB5 HR5 hGw hGs
              by_cases hk0 : kd = 0
              · subst hk0
                go_wp2_with fail
                refine (lives _).mono ?_
                rintro e w8 ⟨rfl, hb8⟩
                have H8 := hid (HB6.out.trans (hb8.mono HB6.out.size))
                clear hb8
                go_wp2_with fail
                go_ret
                exact ⟨rfl, H8.out⟩
              · have hk0b : ((kd : Int) == 0) = false := by simp; omega
                have HK12 := hid (show kindOf (wT (natOf x) len) = 1 ∨ kindOf (wT (natOf x) len) = 2 from by
                  have h1 := HKD.out
                  have h3 := HK.out
                  rcases kindOf_lt (wT (natOf x) len) with h | h | h | h
                  · omega
                  · exact .inl h
                  · exact .inr h
                  · omega)
                go_wp2_with fail
                refine (new_yes A b off len cap x _ HA.out HX6.out HF.out HK12.out).mono ?_
                rintro e w7 ⟨D, bd, vd, rfl, hdc⟩
                have HDC := hid hdc
                have HW7 := hid (HW6.out.step hdc.below)
                clear hdc
                go_wp2_with fail
                refine (wbytes (G + 1) G _ _ _ HW7.out (by have := HE9.out; omega)).mono ?_
                rintro e w8 ⟨rfl, hb8⟩
                have HB78 := hid hb8
                have HB8 := hid (show Below w6.heap.size w6 w8 from HDC.out.below.trans (hb8.mono HDC.out.below.size))
                have HW8 := hid (HW7.out.step hb8)
                clear hb8
                have HBF := hid (bytes_facts _ _ HEL.out)
                generalize bytesB (encT (natOf x) len (natOf y) j).1 (encT (natOf x) len (natOf y) j).2 = tx at HBF ⊢
                go_wp2_with fail
                refine (rread tx _).mono ?_
                rintro e w9 ⟨rfl, hw9⟩
                have HRD := hid (show Rd w9 w8.heap.size tx 0 from by rw [hw9]; exact heap_alloc_new _ _)
                have HB9 := hid (show Below w8.heap.size w8 w9 from by rw [hw9]; exact (Below.refl _ _).alloc (Nat.le_refl _) _)
                have HDF := hid (dcF_of HDC.out (HB78.out.trans (HB9.out.mono HB78.out.size)) w8.heap.size HB78.out.size)
                have HX8 := hid (HX6.out.below HB8.out)
                have HY8 := hid (HY6.out.below HB8.out)
                have HR8 := hid ((HB8.out.block B (Array.getElem?_eq_some_iff.1 HR6.out).1).trans HR6.out)
                have HBw8 := hid (HB6.out.trans (HB8.out.mono HB6.out.size))
                clear hw9 HW7 HDC HB78 HX6 HY6 HR6 HW6
                go_wp2_with fail
                go_loopw [4, 18, 19, 20, 173] (fun _ _ _ _ i wq => ∃ k : Nat, k ≤ j ∧ i = .int .i64 k ∧ Below w8.heap.size w8 wq ∧ Rd wq w8.heap.size tx (encT (natOf x) len (natOf y) k).2 ∧ DcF wq D w8.heap.size (natOf x) len) (fun _ _ _ _ i _ => j - (intOf i).toNat)
                case atStart => exact ⟨0, by omega, rfl, HB9.out, HRD.out, HDF.out⟩
                case round =>
                  obtain ⟨k, hkj, rfl, hbq, hrd, hdf⟩ := hrel
                  have HBQ := hid hbq
                  have HRQ := hid hrd
                  have HDQ := hid hdf
                  clear hbq hrd hdf HRD HDF
                  by_cases hkl : k < j
                  · have hA2 := HA2.out (by omega)
                    subst hA2
                    obtain ⟨q1, q2, q3, q4, q5⟩ := HVF.out k hkl
                    have a0 : wr.cell? ⟨b2, off2 + k, none⟩ = some (.int .i64 (natOf y k : Int)) := by
                      rw [← q5]
                      exact (HBQ.out.cell (p := ⟨b2, off2 + k, none⟩) (HY8.out.lt (by omega))).trans (HY8.out.at_ k hkl)
                    have hbits : (encT (natOf x) len (natOf y) j).2 ≤ 8 * tx.size := by rw [HBF.out.2]; omega
                    have hdec := dec_all (g := natOf x) (N := len) (X := numS tx) (L := 8 * tx.size) (s := natOf y) (k := k) (M := j) hkl q1 q2 q3 q4 HBF.out.1 hbits
                    have HDE := hid hdec
                    have hpe : (encT (natOf x) len (natOf y) k).2 ≤ 8 * tx.size := by
                      have h := (enc_bits (natOf x) len (natOf y) k j hkl).2
                      omega
                    have hts : tx.size ≤ 1048576 := by have h1 := HBF.out.2; have h2 := HE9.out; omega
                    clear hdec hbits q1 q2 q3 q4 q5
                    go_wp2_with fail
                    refine (nextP D w8.heap.size tx _ (natOf x) len _ HDQ.out HRQ.out hts hpe hlen).mono ?_
                    rintro e w10 ⟨rfl, hr10, ho10⟩
                    rw [HDE.out] at hr10 ⊢
                    have HR10 := hid hr10
                    have HO10 := hid ho10
                    clear hr10 ho10 hpe hts
                    go_wp2_with fail
                    go_roundw
                    case rel => exact ⟨k + 1, by omega, by go_num, HO10.out.below HBQ.out (Nat.le_refl _), HR10.out, HDQ.out.only HO10.out⟩
                    case measure => simp [intOf]; omega
                  · go_wp2_with fail
                    refine (wlen (G + 1) G _ _ _ (HW8.out.step HBQ.out) (by have := HE9.out; omega)).mono ?_
                    rintro e w11 ⟨rfl, k11, rfl⟩
                    go_wp2_with fail
                    refine (costs A (some ⟨B, 0, none⟩) b off len cap B 0 len x (manyT (natOf y) j) _ HA.out (show Ints (wr.drewN k11) b off len x from HX8.out.below (below_drewN' HBQ.out k11)) (fun _ => rfl)
                      ⟨fun _ => Nat.lt_of_lt_of_le (Array.getElem?_eq_some_iff.1 HR8.out).1 (below_drewN' HBQ.out k11).size, fun i hi => by
                        have h : (wr.drewN k11).heap[B]? = some (.cells (mnV (natOf y) len j) 3 (0, 0)) := (HBQ.out.block B (Array.getElem?_eq_some_iff.1 HR8.out).1).trans HR8.out
                        rw [cell_of_row _ _ _ _ _ _ h, Nat.zero_add]
                        exact mnV_at _ _ _ _ hi⟩ HF.out (fun i hi => Nat.le_trans (manyT_le _ _ _) hL60)).mono ?_
                    rintro e w12 ⟨rfl, k12, rfl⟩
                    rw [cost_enc (natOf x) len (natOf y) j (fun t ht => (HVF.out t ht).1)]
                    go_wp2_with fail
                    refine (lives _).mono ?_
                    rintro e w13 ⟨rfl, hb13⟩
                    have H12 := hid (below_drewN' (HBw8.out.trans (HBQ.out.mono HBw8.out.size)) (k11 + k12))
                    have H13 := hid (H12.out.trans (hb13.mono H12.out.size))
                    clear hb13
                    go_wp2_with fail
                    go_ret
                    exact ⟨rfl, H13.out⟩
            · have HV := hid hv
              have HM := hid hmn
              clear hv hmn HCASE
              go_wp2_with fail
              have HX5 := hid (show Ints (wr.alloc (.cells #[.slice none 0 0, .int .u64 0, .int .i64 0] 47)) b off len x from
                ⟨fun h => by have := HBl.out h; have := HM.out.low; have := hGs.out; have := (Array.getElem?_eq_some_iff.1 HM.out.blk).1; omega, fun i hi => (HBG.out.cell (p := ⟨b, off + i, none⟩) (by have := HBl.out (by omega); have := (Array.getElem?_eq_some_iff.1 HM.out.blk).1; show b < wr.heap.size; omega)).trans ((HBQ.out.cell (p := ⟨b, off + i, none⟩) (HBl.out (by omega))).trans (HX4.out.at_ i hi))⟩)
              have HY5 := hid (show Ints (wr.alloc (.cells #[.slice none 0 0, .int .u64 0, .int .i64 0] 47)) b2 off2 j y from
                ⟨fun h => by have := HBl2.out h; have := hGs.out; have := (Array.getElem?_eq_some_iff.1 HM.out.blk).1; omega, fun i hi => (HBG.out.cell (p := ⟨b2, off2 + i, none⟩) (by have := HBl2.out (by omega); have := (Array.getElem?_eq_some_iff.1 HM.out.blk).1; show b2 < wr.heap.size; omega)).trans ((HBQ.out.cell (p := ⟨b2, off2 + i, none⟩) (HBl2.out (by omega))).trans (HY4.out.at_ i hi))⟩)
              have HB5 := hid (show Below w.heap.size w (wr.alloc (.cells #[.slice none 0 0, .int .u64 0, .int .i64 0] 47)) from HM.out.below.trans (HBG.out.mono HM.out.below.size))
              generalize wr.alloc (.cells #[.slice none 0 0, .int .u64 0, .int .i64 0] 47) = W5 at hGw HX5 HY5 HB5 ⊢
              generalize wr.heap.size = G at hGw ⊢
              clear HBG hGs HX4 HY4 HBQ
              refine (write_bad A A2 b off len cap b2 off2 j cap2 len x y _ _ HA.out HX5.out HA2.out HY5.out (fun W h => (codes_yes A b off len cap x W HA.out h HF.out HK.out).mono fun _ _ h => codesP_of h) (Nat.le_refl _) hlen hm2 HYB.out HV.out).mono ?_
              rintro e w6 ⟨rfl, hb6⟩
              have HW6 := hid (hGw.out.step hb6)
              have HB6 := hid (HB5.out.trans (hb6.mono HB5.out.size))
              clear hb6 hGw HX5 HY5 HB5
              go_wp2_with fail
              refine (wlen _ G 0 0 _ HW6.out (by omega)).mono ?_
              rintro e w7 ⟨rfl, k7, rfl⟩
              go_wp2_with fail
              refine (lives _).mono ?_
              rintro e w8 ⟨rfl, hb8⟩
              have H8 := hid ((below_drewN' HB6.out k7).trans (hb8.mono (below_drewN' HB6.out k7).size))
              clear hb8
              go_wp2_with fail
              go_ret
              exact ⟨rfl, H8.out⟩
end Huff
end Go.Proofs.Ythgjijjalfhhcaa
