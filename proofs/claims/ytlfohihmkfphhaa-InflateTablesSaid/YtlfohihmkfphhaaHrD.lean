/- WALKS: a symbol read, by the program. -/
import Derived.Test.YtlfohihmkfphhaaHrC
namespace Go.Proofs.Ytlfohihmkfphhaa
set_option linter.unusedVariables false
open Go.RowKit
open Go.Proofs.Huf
attribute [local go_sem ↓] Go.wp_at_zero Go.wp_at_succ
namespace Huff

theorem or_bit (v b : Nat) (hv : v < 32768) (hb : b < 2) : bits .or .i64 ((v : Int) * 2) (b : Int) = ((2 * v + b : Nat) : Int) := by
  have e : ((v : Int) * 2) = ((2 * v : Nat) : Int) := by omega
  rw [e]
  show IntKind.i64.wrap ((BitVec.ofInt 64 ((2 * v : Nat) : Int) ||| BitVec.ofInt 64 (b : Int)).toNat : Int) = _
  have hx : 2 * v ||| b = 2 * v + b := by
    have h := Nat.two_pow_add_eq_or_of_lt (i := 1) (b := b) (by omega) v
    rw [Nat.pow_one] at h
    exact h.symm
  rw [BitVec.toNat_or, BitVec.ofInt_natCast, BitVec.ofInt_natCast, BitVec.toNat_ofNat, BitVec.toNat_ofNat, Nat.mod_eq_of_lt (by omega), Nat.mod_eq_of_lt (by omega), hx, IntKind.wrap_i64]
  omega

/-- A decoder, to be read. -/
structure DcF (W : World) (D G : Nat) (g : Nat → Nat) (N : Nat) : Prop where
  lt : D < W.heap.size
  ne : D ≠ G
  cnt : ∀ n, n < 16 → W.cell? ⟨D, n, none⟩ = some (.int .i64 (cT g N n : Nat))
  sym : ∃ Q cap, W.cell? ⟨D, 16, none⟩ = some (.slice Q (syT g N 15).length cap) ∧ ∀ i, i < (syT g N 15).length → ∃ E, Q = some ⟨E, 0, none⟩ ∧ E ≠ G ∧ E < W.heap.size ∧ W.cell? ⟨E, i, none⟩ = some (.int .i64 (((syT g N 15).getD i 0 : Nat) : Int))
theorem only_cell {G : Nat} {w w' : World} (h : Only G w w') {b o : Nat} (hb : b < w.heap.size) (hn : b ≠ G) : w'.cell? ⟨b, o, none⟩ = w.cell? ⟨b, o, none⟩ :=
  World.cell?_of_block (w := w) (h.block b hb hn)
theorem DcF.only {W W' : World} {D G : Nat} {g : Nat → Nat} {N : Nat} (h : DcF W D G g N) (o : Only G W W') : DcF W' D G g N := by
  obtain ⟨Q, cap, h1, h2⟩ := h.sym
  refine ⟨Nat.lt_of_lt_of_le h.lt o.size, h.ne, fun n hn => (only_cell o h.lt h.ne).trans (h.cnt n hn), Q, cap, (only_cell o h.lt h.ne).trans h1, fun i hi => ?_⟩
  obtain ⟨E, a, b, c, d⟩ := h2 i hi
  exact ⟨E, a, b, Nat.lt_of_lt_of_le c o.size, (only_cell o c b).trans d⟩

/-- A reader, fine or not. -/
def RdB (w : World) (g : Nat) (s : ByteArray) (p : Nat) (bad : Bool) : Prop := w.heap[g]? = some (.cells #[.string s, .int .i64 (p : Int), .bool bad] 71 (0, 0))
/-- What is told of the next symbol. -/
abbrev outE (o : Out) : Ending := .returned (.tuple #[.int .i64 (o.v : Int), .bool o.ok])

set_option maxRecDepth 100000 in
set_option maxHeartbeats 2000000 in
theorem nextP (D G : Nat) (s : ByteArray) (p0 : Nat) (g : Nat → Nat) (N : Nat) (w : World) (hd : DcF w D G g N) (hr : Rd w G s p0) (hs : s.size ≤ 1048576) (hp : p0 ≤ 8 * s.size) (hN : N ≤ 300) :
    Calls Try.prog 94 #[.pointer (some ⟨D, 0, none⟩), .pointer (some ⟨G, 0, none⟩)] w fun e w' => e = outE (decF g N (numS s) (8 * s.size) 15 p0 0 0) ∧ RdB w' G s (decF g N (numS s) (8 * s.size) 15 p0 0 0).p (decF g N (numS s) (8 * s.size) 15 p0 0 0).bad ∧ Only G w w' := by
  obtain ⟨o, ho⟩ : ∃ o, o = decF g N (numS s) (8 * s.size) 15 p0 0 0 := ⟨_, rfl⟩
  rw [← ho]
  have HO := hid ho
  have HD := hid hd
  have HR := hid hr
  clear ho hd hr
  go_enter Try.func94, Try.ntmps94
  go_wp2_with fail
  go_loopw [6, 7, 8, 9] (fun c f a k wr => ∃ n p v : Nat, n ≤ 15 ∧ k = .int .i64 ((n : Int) + 1) ∧ c = .int .i64 (v : Int) ∧ f = .int .i64 (sT g N n : Nat) ∧ a = .int .i64 (aT g N n : Nat) ∧ p ≤ 8 * s.size ∧ v < 2 ^ n ∧ sT g N n ≤ v ∧
    Rd wr G s p ∧ Only G w wr ∧ o = decF g N (numS s) (8 * s.size) (15 - n) p n v) (fun _ _ _ k _ => 16 - (intOf k).toNat)
  case atStart => exact ⟨0, p0, 0, by omega, rfl, rfl, rfl, rfl, hp, by decide, Nat.le_refl _, HR.out, Only.refl _ _, HO.out⟩
  case round =>
    obtain ⟨n, p, v, hn, rfl, rfl, rfl, rfl, hpl, hv, hsv, hrd, hon, ho⟩ := hrel
    have HRD := hid hrd
    have HON := hid hon
    have HOO := hid ho
    have HSV := hid hsv
    clear hrd hon ho hsv HR HO
    have hDn := HD.out.only HON.out
    have HDN := hid hDn
    clear hDn
    by_cases hlt : n < 15
    · have hd15 : decide ((n : Int) + 1 ≤ 15) = true := by rw [decide_eq_true_iff]; omega
      have hv2 : v < 32768 := Nat.lt_of_lt_of_le hv (Nat.le_trans (Nat.pow_le_pow_right (by decide) (show n ≤ 14 by omega)) (by decide))
      have hvi : (v : Int) < 32768 := by omega
      have HVV := hid hv
      clear hv
      by_cases hpL : p < 8 * s.size
      · go_wp2_with fail
        refine (rbit1 G s p _ HRD.out hs hpL).mono ?_
        rintro e w1 ⟨rfl, hl1⟩
        have HL := hid hl1
        clear hl1
        have hb2 := bitN_lt (numS s) p
        have HOR := hid (or_bit v (bitN (numS s) p) hv2 hb2)
        have HBB := hid (show bitN (numS s) p = bitN (numS s) p from rfl)
        generalize hbb : bitN (numS s) p = bt at hb2 HOR
        have HBT := hid hbb
        clear hbb HBB
        go_wp2_with fail
        refine (rfine G s (p + 1) _ HL.out.rd).mono ?_
        rintro e w2 ⟨rfl, rfl⟩
        go_upto_region 10 with fail
        rw [HOR.out]
        have HDL := hid (HDN.out.only HL.out.only)
        have HFS := hid (show fT g N (n + 1) = 2 * sT g N n from rfl)
        have HSS := hid (show sT g N (n + 1) = 2 * sT g N n + cT g N (n + 1) from rfl)
        have HAA := hid (show aT g N (n + 1) = aT g N n + cT g N (n + 1) from rfl)
        have hq15 : 15 - n = (14 - n) + 1 := by omega
        have ho := HOO.out
        rw [hq15] at ho
        have c1 : w1.cell? ⟨D, n + 1, none⟩ = some (.int .i64 (cT g N (n + 1) : Nat)) := HDL.out.cnt (n + 1) (by omega)
        have hcb := cT_le g (n + 1) N
        have hab := aT_le g N n
        have hab2 : aT g N n ≤ 4500 := Nat.le_trans hab (Nat.le_trans (Nat.mul_le_mul (show n ≤ 15 by omega) hN) (by decide))
        have hsb : sT g N n ≤ v := HSV.out
        clear hab hq15
        by_cases hc : 2 * v + bt < 2 * sT g N n + cT g N (n + 1)
        · obtain ⟨i, hfi, hiN, hgi, hn0, hri⟩ := find_rank (g := g) (N := N) (n := n + 1) (v := 2 * v + bt) (by rw [HFS.out]; omega) (by rw [HFS.out]; exact hc)
          have he := dec_hit (f := 14 - n) hpL (by rw [HBT.out]; exact hfi)
          rw [← ho] at he
          have HE := hid he
          have hsy := sy_at g N n i hgi hiN 15 (by omega)
          obtain ⟨Q, cq, s1, s2⟩ := HDL.out.sym
          have hKl : aT g N n + cT g i (n + 1) < (syT g N 15).length := (List.getElem?_eq_some_iff.1 hsy).1
          obtain ⟨E, rfl, hEG, hEl, s3⟩ := s2 _ hKl
          have hgd : (syT g N 15).getD (aT g N n + cT g i (n + 1)) 0 = i := by rw [List.getD_eq_getElem?_getD, hsy]; rfl
          rw [hgd] at s3
          rw [HFS.out] at hri
          clear ho he hgd s2 hsy hfi hEG hEl hn0 hgi hiN
          generalize syT g N 15 = sy at s1 s3 hKl
          generalize cT g i (n + 1) = rr at s3 hKl hri
          generalize sT g N n = S at hri hsb hc HSV HFS HSS ⊢
          generalize aT g N n = aa at s3 hKl hab2 HAA ⊢
          generalize cT g N (n + 1) = cc at c1 hcb hc HSS HAA
          have hq2 : 2 * v + bt < 65536 := by omega
          generalize 2 * v + bt = q at hri hc hq2 ⊢
          obtain ⟨F, hF⟩ : ∃ F : Nat, F = 2 * S := ⟨_, rfl⟩
          have hx1 : (q : Int) - (F : Int) < (cc : Int) := by omega
          have hx2 : ((aa : Int) + (q : Int) - (F : Int)) = ((aa + rr : Nat) : Int) := by omega
          have hx7 : (F : Int) < 65536 := by omega
          have hx8 : (F : Int) ≤ (q : Int) := by omega
          have hx3 : (q : Int) < 65536 := by omega
          have hx4 : (S : Int) < 32768 := by omega
          have hx5 : (aa : Int) ≤ 4500 := by omega
          generalize hKK : aa + rr = KK at hx2 hKl s3
          have hx6 : (S : Int) * 2 = (F : Int) := by omega
          clear hKK hc hri hsb hq2 hv2 hab2 hcb hvi hF
          go_upto_region 11 with fail
          clear hx6
          go_wp2_with fail
          go_ret2
          refine ⟨?_, ?_, HON.out.trans HL.out.only⟩
          · show Ending.returned (.tuple #[.int .i64 (i : Int), .bool true]) = outE o
            rw [HE.out]
          · rw [HE.out]
            exact HL.out.rd
        · have hov := find_over (g := g) (N := N) (n := n + 1) (v := 2 * v + bt) (by omega) (by rw [HFS.out]; omega)
          have he := dec_on (f := 14 - n) hpL (by rw [HBT.out]; exact hov)
          rw [HBT.out, ← ho] at he
          have HE := hid he
          clear ho he hov
          have hge : 2 * sT g N n + cT g N (n + 1) ≤ 2 * v + bt := by omega
          have HSN := hid (show sT g N (n + 1) ≤ 2 * v + bt from by rw [HSS.out]; exact hge)
          have HVN := hid (show 2 * v + bt < 2 ^ (n + 1) from by rw [Nat.pow_succ]; have := HVV.out; omega)
          generalize sT g N n = S at hsb hc HSV HFS HSS hge ⊢
          generalize aT g N n = aa at hab2 HAA ⊢
          generalize cT g N (n + 1) = cc at c1 hcb hc HSS HAA hge
          have hq2 : 2 * v + bt < 65536 := by omega
          generalize 2 * v + bt = q at hc hq2 hge HSN HE HVN ⊢
          obtain ⟨F, hF⟩ : ∃ F : Nat, F = 2 * S := ⟨_, rfl⟩
          have hx1 : ¬ (q : Int) - (F : Int) < (cc : Int) := by omega
          have hx3 : (q : Int) < 65536 := by omega
          have hx4 : (S : Int) < 32768 := by omega
          have hx5 : (aa : Int) ≤ 4500 := by omega
          have hx7 : (F : Int) < 65536 := by omega
          have hx8 : (F : Int) ≤ (q : Int) := by omega
          have hx9 : (cc : Int) ≤ 300 := by omega
          have hx6 : (S : Int) * 2 = (F : Int) := by omega
          have HFF := hid hF
          clear hc hsb hq2 hv2 hab2 hcb hvi hF hge
          go_upto_region 11 with fail
          clear hx6
          go_wp2_with fail
          go_roundw
          case rel => exact ⟨n + 1, p + 1, q, by omega, by simp, rfl, val_int (by rw [HSS.out, HFF.out]; omega), val_int (by rw [HAA.out]; omega), by omega, HVN.out, HSN.out, HL.out.rd, HON.out.trans HL.out.only, by rw [show 15 - (n + 1) = 14 - n from by omega]; exact HE.out⟩
          case measure => simp [intOf]; omega
      · have hpe : p = 8 * s.size := by omega
        have he := HOO.out
        rw [show 15 - n = (14 - n) + 1 from by omega, dec_miss hpL] at he
        have HE := hid he
        have HOR := hid (or_bit v 0 hv2 (by decide))
        clear he
        go_wp2_with fail
        refine (rbit0 G s p _ HRD.out hs hpe).mono ?_
        rintro e w1 ⟨rfl, hk1, hk2⟩
        have HK1 := hid hk1
        have HK2 := hid hk2
        clear hk1 hk2 hpe
        go_wp2_with fail
        refine (rfine0 G s p _ HK1.out).mono ?_
        rintro e w2 ⟨rfl, rfl⟩
        go_wp2_with fail
        go_ret2
        refine ⟨?_, ?_, HON.out.trans HK2.out⟩
        · show Ending.returned (.tuple #[.int .i64 0, .bool false]) = outE o
          rw [HE.out]; rfl
        · rw [HE.out]
          exact HK1.out
    · obtain rfl : n = 15 := by omega
      have he := HOO.out
      have HE := hid (show o = ⟨0, false, p, false⟩ from he)
      clear he hv
      go_wp2_with fail
      go_ret2
      refine ⟨?_, ?_, HON.out⟩
      · show Ending.returned (.tuple #[.int .i64 0, .bool false]) = outE o
        rw [HE.out]; rfl
      · rw [HE.out]
        exact HRD.out
end Huff
end Go.Proofs.Ytlfohihmkfphhaa
