/- WALKS: a symbol read, by the document. -/
import Derived.Test.YtlfohihmkfphhaaHrD
namespace Go.Proofs.Ytlfohihmkfphhaa
set_option linter.unusedVariables false
open Go.RowKit
open Go.Proofs.Huf
namespace Huff

theorem nextNil (r : Option Addr) (w : World) : Calls Try.prog 94 #[.pointer none, .pointer r] w fun e w' => e = .returned (.tuple #[.int .i64 0, .bool false]) ∧ w = w' := by
  go_enter Try.func94, Try.ntmps94
  go_wp2_with fail
  go_ret2
  exact ⟨rfl, rfl⟩

/-- Lengths and their codes, to be read. -/
structure LcF (W : World) (G b off : Nat) (R : Option Addr) (x : Nat → Int) (N : Nat) : Prop where
  len : ∀ i, i < N → b ≠ G ∧ b < W.heap.size ∧ W.cell? ⟨b, off + i, none⟩ = some (.int .i64 (x i))
  cod : ∀ i, i < N → ∃ C, R = some ⟨C, 0, none⟩ ∧ C ≠ G ∧ C < W.heap.size ∧ W.cell? ⟨C, i, none⟩ = some (.int .u32 (codeAt (natOf x) N i : Nat))
theorem LcF.only {W W' : World} {G b off : Nat} {R : Option Addr} {x : Nat → Int} {N : Nat} (h : LcF W G b off R x N) (o : Only G W W') : LcF W' G b off R x N :=
  ⟨fun i hi => by
    obtain ⟨a, c, d⟩ := h.len i hi
    exact ⟨a, Nat.lt_of_lt_of_le c o.size, (only_cell o c a).trans d⟩,
   fun i hi => by
    obtain ⟨C, a, c, d, e⟩ := h.cod i hi
    exact ⟨C, a, c, Nat.lt_of_lt_of_le d o.size, (only_cell o d c).trans e⟩⟩

set_option maxRecDepth 100000 in
set_option maxHeartbeats 2000000 in
theorem refNext (A R : Option Addr) (b off N cap ccap G : Nat) (s : ByteArray) (p0 : Nat) (x : Nat → Int) (w : World) (hA : 0 < N → A = some ⟨b, off, none⟩) (hl : LcF w G b off R x N) (hf : Fine N x) (hr : Rf w G s p0 false) (hs : s.size ≤ 1048576) (hp : p0 ≤ 8 * s.size) :
    Calls Try.prog 75 #[.slice A N cap, .slice R N ccap, .pointer (some ⟨G, 0, none⟩)] w fun e w' => e = outE (decF (natOf x) N (numS s) (8 * s.size) 15 p0 0 0) ∧ Rf w' G s (decF (natOf x) N (numS s) (8 * s.size) 15 p0 0 0).p (decF (natOf x) N (numS s) (8 * s.size) 15 p0 0 0).bad ∧ Only G w w' := by
  obtain ⟨o, ho⟩ : ∃ o, o = decF (natOf x) N (numS s) (8 * s.size) 15 p0 0 0 := ⟨_, rfl⟩
  rw [← ho]
  have HO := hid ho
  have HL := hid hl
  have HA := hid hA
  have HF := hid hf.2
  have HR := hid hr
  have hN := hf.1
  clear ho hl hr hf hA
  go_enter Try.func75, Try.ntmps75
  go_wp2_with fail
  go_loopw [8, 9, 10] (fun c k _ wr => ∃ n p v : Nat, n ≤ 15 ∧ k = .int .i64 ((n : Int) + 1) ∧ c = .int .u32 (v : Int) ∧ p ≤ 8 * s.size ∧ v < 2 ^ n ∧
    Rf wr G s p false ∧ Only G w wr ∧ o = decF (natOf x) N (numS s) (8 * s.size) (15 - n) p n v) (fun _ k _ _ => 16 - (intOf k).toNat)
  case atStart => exact ⟨0, p0, 0, by omega, rfl, rfl, hp, by decide, HR.out, Only.refl _ _, HO.out⟩
  case round =>
    obtain ⟨n, p, v, hn, rfl, rfl, hpl, hv, hrd, hon, ho⟩ := hrel
    have HRD := hid hrd
    have HON := hid hon
    have HOO := hid ho
    clear hrd hon ho HR HO
    by_cases hlt : n < 15
    · have hd15 : decide ((n : Int) + 1 ≤ 15) = true := by rw [decide_eq_true_iff]; omega
      have hvi : (v : Int) < 32768 := by
        have : v < 32768 := Nat.lt_of_lt_of_le hv (Nat.le_trans (Nat.pow_le_pow_right (by decide) (show n ≤ 14 by omega)) (by decide))
        omega
      have HVV := hid hv
      clear hv
      by_cases hpL : p < 8 * s.size
      · go_wp2_with fail
        refine (refBit1 G s p _ HRD.out hs hpL).mono ?_
        rintro e w1 ⟨rfl, hl1⟩
        have HLF := hid hl1
        clear hl1
        have hb2 := bitN_lt (numS s) p
        generalize hbb : bitN (numS s) p = bt at hb2
        have HBT := hid hbb
        clear hbb
        have hc2 := HLF.out.rf.c2
        have HVN := hid (show 2 * v + bt < 2 ^ (n + 1) from by rw [Nat.pow_succ]; have := HVV.out; omega)
        have hq15 : 15 - n = (14 - n) + 1 := by omega
        have ho := HOO.out
        rw [hq15] at ho
        have HHO := hid ho
        have hqv : 2 * (v : Int) + (bt : Int) = ((2 * v + bt : Nat) : Int) := by omega
        obtain ⟨q, hq⟩ : ∃ q, q = 2 * v + bt := ⟨_, rfl⟩
        rw [← hq] at hqv HVN
        have HQ := hid hq
        have hqi : (q : Int) < 65536 := by omega
        clear ho hq15 hq
        go_wp2_with fail
        obtain ⟨wo, hwo⟩ : ∃ wo : World, wo = w1 := ⟨_, rfl⟩
        subst hwo
        have HLL := hid (HL.out.only (HON.out.trans HLF.out.only))
        clear hc2 hvi
        go_loop [10, 26] (fun _ i => ∃ j : Nat, j ≤ N ∧ i = .int .i64 j ∧ findT (natOf x) N j (n + 1) q = none) (fun _ i => N - (intOf i).toNat)
        case atStart => exact ⟨0, by omega, rfl, rfl⟩
        case round =>
          obtain ⟨j, hj, rfl, hfn⟩ := hrel
          have HFN := hid hfn
          clear hfn
          by_cases hjl : j < N
          · have hA := HA.out (by omega)
            subst hA
            obtain ⟨_, _, a0⟩ := HLL.out.len j hjl
            obtain ⟨C, rfl, _, _, d0⟩ := HLL.out.cod j hjl
            obtain ⟨x0, x1⟩ := HF.out j hjl
            have hcb := codeAt_bd (natOf x) N j hN (by omega) (by unfold natOf; omega)
            have HN := hid (show natOf x j = (x j).toNat from rfl)
            generalize x j = y at a0 x0 x1 HN
            generalize hcc : codeAt (natOf x) N j = cc at d0 hcb
            have HCC := hid hcc
            clear hcc
            have hci : (cc : Int) ≤ 9830400 := by omega
            clear hcb
            by_cases hy : y = (n : Int) + 1
            · by_cases hcq : cc = q
              · have hfi : findT (natOf x) N N (n + 1) (2 * v + bitN (numS s) p) = some j := by
                  rw [HBT.out, ← HQ.out]
                  exact find_keep (find_here HFN.out (by rw [HN.out]; omega) (by rw [HCC.out]; exact hcq)) N hjl
                have he := dec_hit (f := 14 - n) hpL hfi
                rw [← HHO.out] at he
                have HE := hid he
                clear he hfi
                have hcb : ((cc : Int) == (q : Int)) = true := by simp; omega
                subst hy
                clear hcq
                go_wp2_with fail
                go_ret2
                refine ⟨?_, ?_, HON.out.trans HLF.out.only⟩
                · show Ending.returned (.tuple #[.int .i64 (j : Int), .bool true]) = outE o
                  rw [HE.out]
                · rw [HE.out]
                  exact HLF.out.rf
              · have HNX := hid (find_next HFN.out (fun h => hcq (by rw [← HCC.out]; exact h.2)))
                have hcb : ((cc : Int) == (q : Int)) = false := by simp; omega
                subst hy
                clear hcq
                go_wp2_with fail
                go_round
                case rel => exact ⟨j + 1, by omega, by go_num, HNX.out⟩
                case measure => simp [intOf]; omega
            · have HNX := hid (find_next HFN.out (fun h => hy (by have h1 := h.1; rw [HN.out] at h1; omega)))
              have hyb : (y == (n : Int) + 1) = false := by simpa using hy
              go_wp2_with fail
              go_round
              case rel => exact ⟨j + 1, by omega, by go_num, HNX.out⟩
              case measure => simp [intOf]; omega
          · have ej : j = N := by omega
            have hfi : findT (natOf x) N N (n + 1) (2 * v + bitN (numS s) p) = none := by
              rw [HBT.out, ← HQ.out]
              have h := HFN.out
              rw [ej] at h
              exact h
            have he := dec_on (f := 14 - n) hpL hfi
            rw [← HHO.out, HBT.out, ← HQ.out] at he
            have HE := hid he
            clear he hfi ej
            go_wp2_with fail
            go_roundw
            case rel => exact ⟨n + 1, p + 1, q, by omega, by simp, rfl, by omega, HVN.out, HLF.out.rf, HON.out.trans HLF.out.only, by rw [show 15 - (n + 1) = 14 - n from by omega]; exact HE.out⟩
            case measure => simp [intOf]; omega
      · have hpe : p = 8 * s.size := by omega
        have he := HOO.out
        rw [show 15 - n = (14 - n) + 1 from by omega, dec_miss hpL] at he
        have HE := hid he
        clear he
        go_wp2_with fail
        refine (refBit0 G s p _ HRD.out hs hpe).mono ?_
        rintro e w1 ⟨rfl, hl1⟩
        have HLF := hid hl1
        have hc2 := hl1.rf.c2
        clear hl1 hpe
        go_wp2_with fail
        go_ret2
        refine ⟨?_, ?_, HON.out.trans HLF.out.only⟩
        · show Ending.returned (.tuple #[.int .i64 0, .bool false]) = outE o
          rw [HE.out]; rfl
        · rw [HE.out]
          exact HLF.out.rf
    · obtain rfl : n = 15 := by omega
      have he := HOO.out
      have HE := hid (show o = ⟨0, false, p, false⟩ from he)
      clear he hv
      go_wp2_with fail
      go_ret2
      refine ⟨?_, ?_, HON.out⟩
      · show Ending.returned (.tuple #[.int .i64 0, .bool false]) = outE o
        rw [HE.out]; rfl
      · rw [HE.out]
        exact HRD.out
end Huff
end Go.Proofs.Ytlfohihmkfphhaa
