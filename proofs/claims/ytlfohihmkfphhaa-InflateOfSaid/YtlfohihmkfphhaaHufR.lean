/- WALKS: the codes of lengths, by the document. -/
import Derived.Test.YtlfohihmkfphhaaHufS
namespace Go.Proofs.Ytlfohihmkfphhaa
set_option linter.unusedVariables false
open Go.RowKit
open Go.Proofs.Huf
namespace Huff

/-- The document's codes, when those of the lengths below k are laid, and of length k those of the first j symbols. -/
def rcV (g : Nat → Nat) (N k j : Nat) : Array Value := rowV (fun i => .int .u32 ((if g i ≠ 0 ∧ (g i < k ∨ (g i = k ∧ i < j)) then codeAt g N i else 0 : Nat) : Int)) N
theorem rcV_start (g : Nat → Nat) (N : Nat) : rowV (fun _ => .int .u32 0) N = rcV g N 1 0 := by
  apply rowV_congr
  intro i hi
  rw [if_neg (by omega)]; rfl
theorem rcV_at (g : Nat → Nat) (N k j i : Nat) (h : i < N) : (rcV g N k j)[i]? = some (.int .u32 ((if g i ≠ 0 ∧ (g i < k ∨ (g i = k ∧ i < j)) then codeAt g N i else 0 : Nat) : Int)) := rowV_at _ _ _ h
theorem rcV_next (g : Nat → Nat) (N k j : Nat) (h : g j = k) (hk : k ≠ 0) : (rcV g N k j).setIfInBounds j (.int .u32 (codeAt g N j : Nat)) = rcV g N k (j + 1) := by
  unfold rcV
  rw [rowV_set]
  apply rowV_congr
  intro i hi
  by_cases e : i = j
  · subst e
    rw [if_pos rfl, if_pos (by omega)]
  · rw [if_neg e]
    by_cases c : g i ≠ 0 ∧ (g i < k ∨ (g i = k ∧ i < j))
    · rw [if_pos c, if_pos (by omega)]
    · rw [if_neg c, if_neg (by omega)]
theorem rcV_none (g : Nat → Nat) (N k j : Nat) (h : g j ≠ k) : rcV g N k (j + 1) = rcV g N k j := by
  apply rowV_congr
  intro i hi
  by_cases c : g i ≠ 0 ∧ (g i < k ∨ (g i = k ∧ i < j))
  · rw [if_pos c, if_pos (by omega)]
  · rw [if_neg c, if_neg (by
      intro hh
      apply c
      by_cases e : i = j
      · subst e; omega
      · omega)]
theorem rcV_turn (g : Nat → Nat) (N k : Nat) : rcV g N k N = rcV g N (k + 1) 0 := by
  apply rowV_congr
  intro i hi
  by_cases c : g i ≠ 0 ∧ (g i < k ∨ (g i = k ∧ i < N))
  · rw [if_pos c, if_pos (by omega)]
  · rw [if_neg c, if_neg (by omega)]
theorem rcV_all (g : Nat → Nat) (N : Nat) (h : ∀ i, i < N → g i ≤ 15) : rcV g N 16 0 = cdV g N N := by
  apply rowV_congr
  intro i hi
  rw [if_pos hi]
  by_cases z : g i = 0
  · rw [if_neg (by omega), codeAt_zero z]
  · rw [if_pos (by have := h i hi; omega)]

/-- A block of one's own, of numbers. -/
structure Own1 (w W : World) (C : Nat) (c : Array Value) : Prop where
  cd : W.heap[C]? = some (.cells c 47 (0, 0))
  below : Below w.heap.size w W
  low : w.heap.size ≤ C
theorem Own1.setC {w W : World} {C : Nat} {c : Array Value} (h : Own1 w W C c) (n : Nat) (v : Value) : Own1 w (W.setCell ⟨C, n, none⟩ v) C (c.setIfInBounds n v) :=
  ⟨heap_setCell_same _ _ _ _ _ _ h.cd, h.below.setCell h.low v, h.low⟩

set_option maxRecDepth 100000 in
set_option maxHeartbeats 1000000 in
theorem refCodes_yes (A : Option Addr) (b off len cap : Nat) (x : Nat → Int) (w : World) (hA : 0 < len → A = some ⟨b, off, none⟩) (hx : Ints w b off len x) (hf : Fine len x) (hk : kindOf (wT (natOf x) len) ≠ 3) :
    Calls Try.prog 53 #[.slice A len cap] w (IsCodes (natOf x) len w) := by
  have HX := hid hx
  have HA := hid hA
  have HF := hid hf
  have hlen := hf.1
  have hk3 : (((kindOf (wT (natOf x) len) : Nat) : Int) == 3) = false := by simp; omega
  clear hx hA hf hk
  go_enter Try.func53, Try.ntmps53
  go_wp2_with fail
  refine (refKind_yes A b off len cap x _ HA.out HX.out HF.out).mono ?_
  rintro e w1 ⟨rfl, rfl⟩
  generalize kindOf (wT (natOf x) len) = kd at hk3 ⊢
  have hmk := make_u32 len hlen w
  go_wp2_with fail
  have HC := hid (show Own1 w (w.alloc (.cells (rowV (fun _ => .int .u32 0) len) 47)) w.heap.size (rcV (natOf x) len 1 0) from
    ⟨by rw [← rcV_start]; exact heap_alloc_new _ _, (Below.refl _ _).alloc (Nat.le_refl _) _, Nat.le_refl _⟩)
  generalize w.alloc (.cells (rowV (fun _ => .int .u32 0) len) 47) = W0 at HC ⊢
  generalize hC : w.heap.size = C at HC ⊢
  have HCC := hid hC
  clear hmk hC
  go_loopw [4, 5] (fun cd k wr => ∃ m : Nat, m ≤ 15 ∧ k = .int .i64 ((m : Int) + 1) ∧ cd = .int .u32 (sT (natOf x) len m : Nat) ∧ Own1 w wr C (rcV (natOf x) len (m + 1) 0)) (fun _ k _ => 16 - (intOf k).toNat)
  case atStart => exact ⟨0, by omega, rfl, rfl, HC.out⟩
  case round =>
    obtain ⟨m, hm, rfl, rfl, hc⟩ := hrel
    have HW := hid hc
    clear hc HC
    by_cases hlt : m < 15
    · have hb := sT_bd (natOf x) len m hlen (by omega)
      have HS := hid (show fT (natOf x) len (m + 1) = 2 * sT (natOf x) len m from rfl)
      generalize sT (natOf x) len m = s at hb HS ⊢
      have hbi : (s : Int) ≤ 9830400 := by omega
      clear hb
      have hd15 : decide ((m : Int) + 1 ≤ 15) = true := by rw [decide_eq_true_iff]; omega
      go_wp2_with fail
      obtain ⟨wo, hwo⟩ : ∃ wo : World, wo = wr := ⟨_, rfl⟩
      subst hwo
      go_loopw [4, 6, 21] (fun cd _ i wq => ∃ j : Nat, j ≤ len ∧ i = .int .i64 j ∧ cd = .int .u32 ((fT (natOf x) len (m + 1) + cT (natOf x) j (m + 1) : Nat) : Int) ∧ Own1 w wq C (rcV (natOf x) len (m + 1) j)) (fun _ _ i _ => len - (intOf i).toNat)
      case atStart => exact ⟨0, by omega, rfl, val_int (by rw [HS.out]; simp [cT]), HW.out⟩
      case round =>
        obtain ⟨j, hj, rfl, rfl, hq⟩ := hrel
        have HQ := hid hq
        clear hq
        have hfb := fT_bd (natOf x) len (m + 1) j hlen (by omega) hj
        by_cases hjl : j < len
        · have hA := HA.out (by omega)
          subst hA
          have a0 : wr.cell? ⟨b, off + j, none⟩ = some (.int .i64 (x j)) := (HQ.out.below.cell (p := ⟨b, off + j, none⟩) (HX.out.lt (by omega))).trans (HX.out.at_ j hjl)
          obtain ⟨x0, x1⟩ := HF.out.2 j hjl
          have HN := hid (show natOf x j = (x j).toNat from rfl)
          generalize x j = y at a0 x0 x1 HN
          have HCS := hid (cT_succ (natOf x) j (m + 1))
          by_cases hy : y = (m : Int) + 1
          · have hgn : natOf x j = m + 1 := by rw [HN.out]; omega
            have HCA := hid (show codeAt (natOf x) len j = fT (natOf x) len (m + 1) + cT (natOf x) j (m + 1) from by rw [codeAt_pos (by rw [hgn]; omega), hgn])
            have HR := hid (rcV_next (natOf x) len (m + 1) j hgn (by omega))
            have HCT := hid (show cT (natOf x) (j + 1) (m + 1) = cT (natOf x) j (m + 1) + 1 from by rw [cT_succ, if_pos ⟨hgn, by omega⟩])
            clear HCS
            subst hy
            have HPP := hid (show (((fT (natOf x) len (m + 1) + cT (natOf x) (j + 1) (m + 1) : Nat) : Int)) = ((fT (natOf x) len (m + 1) + cT (natOf x) j (m + 1) : Nat) : Int) + 1 from by rw [HCT.out]; omega)
            generalize fT (natOf x) len (m + 1) + cT (natOf x) j (m + 1) = q at hfb HCA HPP ⊢
            have hqi : (q : Int) ≤ 9830400 := by omega
            have d0 : ∃ v, wr.cell? ⟨C, j, none⟩ = some v := ⟨_, by rw [cell_of_row _ _ _ _ _ _ HQ.out.cd]; exact rcV_at _ _ _ _ _ hjl⟩
            obtain ⟨v0, d0⟩ := d0
            have g0 : wr.frozen? ⟨C, j, none⟩ = false := frozen_of_row _ _ _ _ _ HQ.out.cd
            clear hfb hgn
            go_wp2_with fail
            go_roundw
            case rel => exact ⟨j + 1, by omega, by go_num, val_int HPP.out.symm, by
              have h := HQ.out.setC j (.int .u32 (q : Int))
              rw [← HCA.out, HR.out] at h
              rw [HCA.out] at h
              exact h⟩
            case measure => simp [intOf]; omega
          · have hgn : natOf x j ≠ m + 1 := by rw [HN.out]; omega
            have HR := hid (rcV_none (natOf x) len (m + 1) j hgn)
            have HCT := hid (show cT (natOf x) (j + 1) (m + 1) = cT (natOf x) j (m + 1) from by rw [cT_succ, if_neg (fun h => hgn h.1)]; rfl)
            have hyb : (y == (m : Int) + 1) = false := by simpa using hy
            clear HCS hfb hgn
            go_wp2_with fail
            go_roundw
            case rel => exact ⟨j + 1, by omega, by go_num, val_int (by rw [HCT.out]), by rw [HR.out]; exact HQ.out⟩
            case measure => simp [intOf]; omega
        · have ej : j = len := by omega
          have HE := hid (show sT (natOf x) len (m + 1) = fT (natOf x) len (m + 1) + cT (natOf x) j (m + 1) from by rw [ej, sT_eq])
          have HT := hid (show rcV (natOf x) len (m + 1) j = rcV (natOf x) len (m + 1 + 1) 0 from by rw [ej]; exact rcV_turn _ _ _)
          clear hfb
          go_wp2_with fail
          go_roundw
          case rel => exact ⟨m + 1, by omega, by simp, val_int (by rw [HE.out]), by rw [← HT.out]; exact HQ.out⟩
          case measure => simp [intOf]; omega
    · obtain rfl : m = 15 := by omega
      go_wp2_with fail
      go_ret
      have h := HW.out.cd
      rw [rcV_all _ _ (fun i hi => by have := HF.out.2 i hi; unfold natOf; omega)] at h
      exact ⟨C, HW.out.low, rfl, h, HW.out.below⟩
end Huff
end Go.Proofs.Ytlfohihmkfphhaa
