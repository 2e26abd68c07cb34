/- INFLATE: stored blocks, of the program. -/
import Derived.Test.YtlfohihmkfphhaaJnfV
import Derived.Test.YtlfohihmkfphhaaJnfN
namespace Go.Proofs.Ytlfohihmkfphhaa
set_option linter.unusedVariables false
open Go.RowKit
open Go.Proofs.Huf
attribute [local go_sem ↓] Go.wp_at_zero Go.wp_at_succ
namespace Inf
open Huff
theorem xor_turned (n : Nat) (hn : n < 65536) : bits .xor .i64 (n : Int) 65535 = ((65535 - n : Nat) : Int) := by
  show IntKind.i64.wrap ((BitVec.ofInt 64 (n : Int) ^^^ BitVec.ofInt 64 65535).toNat : Int) = _
  have e1 : BitVec.ofInt 64 (n : Int) = BitVec.ofNat 64 n := by simp
  have hx : n ^^^ 65535 = 65535 - n := by
    have := Nat.xor_comm n 65535
    apply Nat.eq_of_testBit_eq
    intro i
    have h := Nat.testBit_two_pow_sub_succ (x := n) (n := 16) (by simpa using hn) i
    rw [show 2 ^ 16 - (n + 1) = 65535 - n by omega] at h
    rw [h, Nat.testBit_xor, show (65535 : Nat) = 2 ^ 16 - 1 from rfl, Nat.testBit_two_pow_sub_one]
    by_cases hi : i < 16
    · simp [hi]
    · have : n.testBit i = false := Nat.testBit_lt_two_pow (Nat.lt_of_lt_of_le (show n < 2 ^ 16 from hn) (Nat.pow_le_pow_right (show 0 < 2 by decide) (show 16 ≤ i by omega)))
      simp [hi, this]
  have e2 : (BitVec.ofInt 64 (n : Int) ^^^ BitVec.ofInt 64 65535).toNat = 65535 - n := by
    rw [e1, BitVec.toNat_xor]
    simp only [BitVec.toNat_ofNat]
    rw [Nat.mod_eq_of_lt (by omega)]
    exact hx
  rw [e2]
  exact IntWalk.i64_in _ (by omega)
theorem str_cells (l : List UInt8) : Lib.strCells ⟨l.toArray⟩ = byteCells l := by unfold Lib.strCells byteCells; simp
set_option maxRecDepth 100000 in
set_option maxHeartbeats 2000000 in
/-- A stored block. -/
theorem storedW (S G B : Nat) (s : ByteArray) (p : Nat) (v : Value) (out : List UInt8) (most : Nat) (w : World) (h : St w S G B s p v out most) (hs : s.size ≤ 1048576) (hp : p ≤ 8 * s.size) (hm : most ≤ 65000) (ho : out.length ≤ most) :
    Calls Try.prog 64 #[.pointer (some ⟨S, 0, none⟩)] w fun e w' => Did (storedP most out (numS s) (8 * s.size) p) (outK S G B s most) e w' ∧ Kp TP B w w' := by
  have HT := hid h
  have c0 := h.c0
  have HA := hid (ralignP G s p w h.rd (by omega))
  have hu8 : up8 p ≤ 8 * s.size := by unfold up8; omega
  have hmod := up8_mod p
  have HN1 := hid (fun W (hw : St W S G B s (up8 p) v out most) => num S G B s (up8 p) 16 v out most W hw hs (Nat.le_refl _) hu8)
  unfold storedP
  rw [bind_ok (show align (numS s) (8 * s.size) p = .ok () (up8 p) from rfl)]
  generalize up8 p = P at *
  clear h
  cases h1 : take 16 (numS s) (8 * s.size) P with
  | bad f1 =>
    rw [h1] at HN1
    rw [bind_bad h1]
    clear h1
    go_enter Try.func64, Try.ntmps64
    go_wp2_with fail
    refine HA.out.mono ?_
    rintro e w1 ⟨rfl, l1⟩
    have H1 := hid (HT.out.left l1)
    have K1 := hid (HT.out.kp l1.only ⟨_, l1.rd, rfl, by simp [Value.oneCell']⟩)
    clear l1 c0
    go_wp2_with fail
    refine (HN1.out _ H1.out).mono ?_
    rintro e w2 ⟨hd, k2⟩
    obtain rfl := hd.bad
    clear hd
    have K2 := hid (K1.out.trans k2)
    clear k2
    go_wp2_with fail
    exact ⟨rfl, rfl, K2.out⟩
  | ok n q1 =>
    rw [h1] at HN1
    rw [bind_ok h1]
    have hn := take_lt h1
    obtain ⟨hq0, hq1⟩ := take_le h1
    have HN2 := hid (fun W (hw : St W S G B s q1 v out most) => num S G B s q1 16 v out most W hw hs (Nat.le_refl _) hq1)
    have hq1m : q1 = P + 16 := by
      unfold take at h1
      split at h1
      · cases h1; rfl
      · cases h1
    clear h1
    cases h2 : take 16 (numS s) (8 * s.size) q1 with
    | bad f2 =>
      rw [h2] at HN2
      rw [bind_bad h2]
      clear h2
      go_enter Try.func64, Try.ntmps64
      go_wp2_with fail
      refine HA.out.mono ?_
      rintro e w1 ⟨rfl, l1⟩
      have H1 := hid (HT.out.left l1)
      have K1 := hid (HT.out.kp l1.only ⟨_, l1.rd, rfl, by simp [Value.oneCell']⟩)
      clear l1 c0
      go_wp2_with fail
      refine (HN1.out _ H1.out).mono ?_
      rintro e w2 ⟨⟨_, rfl, rfl, h2⟩, k2⟩
      have H2 := hid h2
      have K2 := hid (K1.out.trans k2)
      clear k2 h2
      go_wp2_with fail
      refine (HN2.out _ H2.out).mono ?_
      rintro e w3 ⟨hd, k3⟩
      obtain rfl := hd.bad
      clear hd
      have K3 := hid (K2.out.trans k3)
      clear k3
      go_wp2_with fail
      exact ⟨rfl, rfl, K3.out⟩
    | ok m q2 =>
      rw [h2] at HN2
      rw [bind_ok h2]
      have hm2 := take_lt h2
      obtain ⟨hq2, hq3⟩ := take_le h2
      have hq2m : q2 = P + 32 := by
        unfold take at h2
        split at h2
        · cases h2; omega
        · cases h2
      clear h2
      have hx := xor_turned n (by omega)
      by_cases hnm : n + m = 65535
      · rw [if_pos hnm]
        have hx2 : bits .xor .i64 (n : Int) 65535 = (m : Int) := by rw [hx]; congr 1; omega
        clear hx
        have hu2 : up8 q2 = q2 := up8_same (by omega)
        have hd2 : up8 q2 / 8 = q2 / 8 := by rw [hu2]
        unfold textB
        by_cases ht : q2 + 8 * n ≤ 8 * s.size
        · rw [bind_ok (show (fun X L p => if p + 8 * n ≤ L then Res.ok (bytesAt X p n) (p + 8 * n) else Res.bad 3 : Rdr (List UInt8)) (numS s) (8 * s.size) q2 = .ok (bytesAt (numS s) q2 n) (q2 + 8 * n) from if_pos ht)]
          have hbl := bytesAt_len (numS s) q2 n
          have HX := hid (extract_bytes s (q2 / 8) n (by omega))
          rw [show 8 * (q2 / 8) = q2 by omega] at HX
          have HTX := hid (fun W (hw : Rd W G s q2) => rtextP G s q2 n W hw hs (by rw [hd2]; omega))
          rw [hu2, HX.out] at HTX
          generalize bytesAt (numS s) q2 n = l at *
          have HRM := hid (fun W (hw : St W S G B s (q2 + 8 * n) v out most) => room S G B s (q2 + 8 * n) n v out most W hw (by omega) (by omega) (by omega))
          unfold roomR at HRM
          by_cases hr : out.length + n ≤ most
          · rw [if_pos hr] at HRM ⊢
            obtain ⟨i0, hi, hz0, hz1, hz2⟩ := info_parts info5
            have HI := hid hi
            have hlz : (⟨l.toArray⟩ : ByteArray).size = n := by simp [ByteArray.size, hbl]
            have HL1 := hid (show out.length + (⟨l.toArray⟩ : ByteArray).size ≤ maxLen by rw [hlz]; unfold maxLen; omega)
            have HL2 := hid (show out.length + (⟨l.toArray⟩ : ByteArray).size ≤ 140737488355328 by rw [hlz]; omega)
            have HLZ := hid hlz
            have HSC := hid (str_cells l)
            have HBL := hid hbl
            generalize (⟨l.toArray⟩ : ByteArray) = tx at *
            clear hi hlz hbl HX
            go_enter Try.func64, Try.ntmps64
            go_wp2_with fail
            refine HA.out.mono ?_
            rintro e w1 ⟨rfl, l1⟩
            have H1 := hid (HT.out.left l1)
            have K1 := hid (HT.out.kp l1.only ⟨_, l1.rd, rfl, by simp [Value.oneCell']⟩)
            clear l1 c0
            go_wp2_with fail
            refine (HN1.out _ H1.out).mono ?_
            rintro e w2 ⟨⟨_, rfl, rfl, h2⟩, k2⟩
            have H2 := hid h2
            have K2 := hid (K1.out.trans k2)
            clear k2 h2
            go_wp2_with fail
            refine (HN2.out _ H2.out).mono ?_
            rintro e w3 ⟨⟨_, rfl, rfl, h3⟩, k3⟩
            have H3 := hid h3
            have K3 := hid (K2.out.trans k3)
            have c0 := h3.c0
            clear k3 h3
            go_wp2_with fail
            refine (HTX.out _ H3.out.rd).mono ?_
            rintro e w4 ⟨rfl, l4⟩
            have H4 := hid (H3.out.left l4)
            have K4 := hid (K3.out.trans (H3.out.kp l4.only ⟨_, l4.rd, rfl, by simp [Value.oneCell']⟩))
            clear l4 c0
            have c0 := H4.out.c0
            go_wp2_with fail
            refine (rfine G s _ _ H4.out.rd).mono ?_
            rintro e w5 ⟨rfl, rfl⟩
            go_wp2_with fail
            refine (HRM.out _ H4.out).mono ?_
            rintro e w6 ⟨⟨_, rfl, rfl, h6⟩, k6⟩
            have H6 := hid h6
            have K6 := hid (K4.out.trans k6)
            clear k6 h6 c0
            have c1 := H6.out.c1
            have f1 := H6.out.free 1
            go_wp2_with (at_builtin; (refine Lib.wpList_append_own_string _ (by rfl) _ _ 63 9 (by rfl) B 5 i0 und63 Try.underlying9 HI.out hz0 hz1 hz2 v out.length (byteCells out) (by rfl) H6.out.own tx (by rfl) HL1.out HL2.out H6.out.size ?_); intro v' w7 hown7 hgrow7 _; rw [HSC.out, HLZ.out, ← HBL.out] at hown7; obtain ⟨d0, d1, d2, d3⟩ := St.more (l := l) H6.out K6.out hgrow7 hown7; have D2 := hid d2; have D3 := hid d3; clear d2 d3 hown7 hgrow7; obtain ⟨A8, c8, g8, rfl, _⟩ := OwnB.form D2.out.own)
            try (go_wp2_with fail)
            go_returns
            exact ⟨⟨_, rfl, rfl, _, by have h := D2.out; rw [List.length_append] at h; exact h⟩, by have h := D3.out; rw [List.length_append] at h; exact h⟩
          · rw [if_neg hr] at HRM ⊢
            generalize (⟨l.toArray⟩ : ByteArray) = tx at *
            go_enter Try.func64, Try.ntmps64
            go_wp2_with fail
            refine HA.out.mono ?_
            rintro e w1 ⟨rfl, l1⟩
            have H1 := hid (HT.out.left l1)
            have K1 := hid (HT.out.kp l1.only ⟨_, l1.rd, rfl, by simp [Value.oneCell']⟩)
            clear l1 c0
            go_wp2_with fail
            refine (HN1.out _ H1.out).mono ?_
            rintro e w2 ⟨⟨_, rfl, rfl, h2⟩, k2⟩
            have H2 := hid h2
            have K2 := hid (K1.out.trans k2)
            clear k2 h2
            go_wp2_with fail
            refine (HN2.out _ H2.out).mono ?_
            rintro e w3 ⟨⟨_, rfl, rfl, h3⟩, k3⟩
            have H3 := hid h3
            have K3 := hid (K2.out.trans k3)
            have c0 := h3.c0
            clear k3 h3
            go_wp2_with fail
            refine (HTX.out _ H3.out.rd).mono ?_
            rintro e w4 ⟨rfl, l4⟩
            have H4 := hid (H3.out.left l4)
            have K4 := hid (K3.out.trans (H3.out.kp l4.only ⟨_, l4.rd, rfl, by simp [Value.oneCell']⟩))
            clear l4 c0
            have c0 := H4.out.c0
            go_wp2_with fail
            refine (rfine G s _ _ H4.out.rd).mono ?_
            rintro e w5 ⟨rfl, rfl⟩
            go_wp2_with fail
            refine (HRM.out _ H4.out).mono ?_
            rintro e w6 ⟨hd, k6⟩
            obtain rfl := hd.bad
            clear hd
            have K6 := hid (K4.out.trans k6)
            clear k6
            go_wp2_with fail
            exact ⟨rfl, rfl, K6.out⟩
        · rw [bind_bad (show (fun X L p => if p + 8 * n ≤ L then Res.ok (bytesAt X p n) (p + 8 * n) else Res.bad 3 : Rdr (List UInt8)) (numS s) (8 * s.size) q2 = .bad 3 from if_neg ht)]
          have HTX := hid (fun W (hw : Rd W G s q2) => rtextB G s q2 n W hw hs (by omega) (by omega) (by rw [hd2]; omega))
          go_enter Try.func64, Try.ntmps64
          go_wp2_with fail
          refine HA.out.mono ?_
          rintro e w1 ⟨rfl, l1⟩
          have H1 := hid (HT.out.left l1)
          have K1 := hid (HT.out.kp l1.only ⟨_, l1.rd, rfl, by simp [Value.oneCell']⟩)
          clear l1 c0
          go_wp2_with fail
          refine (HN1.out _ H1.out).mono ?_
          rintro e w2 ⟨⟨_, rfl, rfl, h2⟩, k2⟩
          have H2 := hid h2
          have K2 := hid (K1.out.trans k2)
          clear k2 h2
          go_wp2_with fail
          refine (HN2.out _ H2.out).mono ?_
          rintro e w3 ⟨⟨_, rfl, rfl, h3⟩, k3⟩
          have H3 := hid h3
          have K3 := hid (K2.out.trans k3)
          have c0 := h3.c0
          clear k3 h3
          go_wp2_with fail
          refine (HTX.out _ H3.out.rd).mono ?_
          rintro e w4 ⟨rfl, b4, o4⟩
          have HB := hid b4
          have K4 := hid (K3.out.trans (H3.out.kp o4 ⟨_, b4, rfl, by simp [Value.oneCell']⟩))
          have c0' : w4.cell? ⟨S, 0, none⟩ = some (.pointer (some ⟨G, 0, none⟩)) := by
            rw [cell_of_row w4 S 0 _ 65 (0, 0) ((o4.block S H3.out.lt H3.out.ne).trans H3.out.st)]; rfl
          clear b4 o4 c0
          go_wp2_with fail
          refine (rfine0 G s _ _ HB.out).mono ?_
          rintro e w5 ⟨rfl, rfl⟩
          go_wp2_with fail
          exact ⟨rfl, rfl, K4.out⟩
      · rw [if_neg hnm]
        have hne : ((m : Int) == bits .xor .i64 (n : Int) 65535) = false := by rw [hx]; simp; omega
        have hne2 : ((m : Int) != bits .xor .i64 (n : Int) 65535) = true := by rw [hx]; simp; omega
        clear hx
        go_enter Try.func64, Try.ntmps64
        go_wp2_with fail
        refine HA.out.mono ?_
        rintro e w1 ⟨rfl, l1⟩
        have H1 := hid (HT.out.left l1)
        have K1 := hid (HT.out.kp l1.only ⟨_, l1.rd, rfl, by simp [Value.oneCell']⟩)
        clear l1 c0
        go_wp2_with fail
        refine (HN1.out _ H1.out).mono ?_
        rintro e w2 ⟨⟨_, rfl, rfl, h2⟩, k2⟩
        have H2 := hid h2
        have K2 := hid (K1.out.trans k2)
        clear k2 h2
        go_wp2_with fail
        refine (HN2.out _ H2.out).mono ?_
        rintro e w3 ⟨⟨_, rfl, rfl, h3⟩, k3⟩
        have K3 := hid (K2.out.trans k3)
        clear k3 h3
        go_wp2_with fail
        exact ⟨rfl, rfl, K3.out⟩
end Inf
end Go.Proofs.Ytlfohihmkfphhaa
