/- INFLATE: decoders of lengths; a block by its lengths, of the program. -/
import Derived.Test.YtlfohihmkfphhaaJnfV
import Derived.Test.YtlfohihmkfphhaaJnfN
import Derived.Test.YtlfohihmkfphhaaSymT
import Derived.Deep.OwnRows
import Derived.LoopNIn
namespace Go.Proofs.Ytlfohihmkfphhaa
set_option linter.unusedVariables false
open Go.RowKit
open Go.Proofs.Huf
attribute [local go_sem ↓] Go.wp_at_zero Go.wp_at_succ
namespace Inf
open Huff
abbrev lx (l : List Nat) (i : Nat) : Int := ((fnL l i : Nat) : Int)
theorem natOf_lx (l : List Nat) : natOf (lx l) = fnL l := by funext i; simp [natOf, lx]
theorem fine_lx {l : List Nat} (h : l.length ≤ 300) (hs : Small l) : Fine l.length (lx l) := ⟨h, fun i hi => by have := hs i hi; simp only [lx]; omega⟩
/-- Lengths in memory. -/
structure Ls (w : World) (A : Option Addr) (b off : Nat) (l : List Nat) : Prop where
  ad : 0 < l.length → A = some ⟨b, off, none⟩
  row : Ints w b off l.length (lx l)
  few : l.length ≤ 300
  small : Small l
set_option maxRecDepth 100000 in
theorem newP (A : Option Addr) (b off cap : Nat) (l : List Nat) (w : World) (h : Ls w A b off l) :
    Calls Try.prog 82 #[.slice A l.length cap] w fun e w' => (∃ dv ok, e = .returned (.tuple #[dv, .bool ok]) ∧ DcV w' (cdsOf l) dv) ∧ Below w.heap.size w w' := by
  have hf := fine_lx h.few h.small
  have hk := kindOf_lt (wT (fnL l) l.length)
  have hno : ∀ K, kindOf (wT (fnL l) l.length) = K → (K = 3 ∨ K = 0) → Calls Try.prog 82 #[.slice A l.length cap] w fun e w' => (∃ dv ok, e = .returned (.tuple #[dv, .bool ok]) ∧ DcV w' (cdsOf l) dv) ∧ Below w.heap.size w w' := by
    intro K hK h3
    refine (new_no A b off l.length cap (lx l) K w h.row (fun w' hx => ?_) h3).mono ?_
    · have := kind_yes A b off l.length cap (lx l) w' h.ad hx hf
      rw [natOf_lx, hK] at this
      exact this
    · rintro e w' ⟨rfl, hb⟩
      refine ⟨⟨_, _, rfl, .inr ⟨?_, rfl⟩⟩, hb⟩
      simp only [cdsOf, hK]
      rcases h3 with rfl | rfl <;> rfl
  have hyes : (kindOf (wT (fnL l) l.length) = 1 ∨ kindOf (wT (fnL l) l.length) = 2) → Calls Try.prog 82 #[.slice A l.length cap] w fun e w' => (∃ dv ok, e = .returned (.tuple #[dv, .bool ok]) ∧ DcV w' (cdsOf l) dv) ∧ Below w.heap.size w w' := by
    intro h1
    have hn := new_yes A b off l.length cap (lx l) w h.ad h.row hf (by rw [natOf_lx]; exact h1)
    rw [natOf_lx] at hn
    refine hn.mono ?_
    rintro e w' ⟨D, b0, v, rfl, hd⟩
    exact ⟨⟨_, _, rfl, .inl ⟨decide_eq_true h1, h.few, D, rfl, dcT_of hd⟩⟩, hd.below⟩
  rcases hk with h0 | h0 | h0 | h0
  · exact hno 0 h0 (.inr rfl)
  · exact hyes (.inl h0)
  · exact hyes (.inr h0)
  · exact hno 3 h0 (.inl rfl)
theorem DcV.grow {W W' : World} {c : Cds} {dv : Value} (h : DcV W c dv) (b : Below W.heap.size W W') : DcV W' c dv := h.kp (Kp.of_below (B := 0) b (Nat.zero_le _))
theorem Ls.grow {w w' : World} {A : Option Addr} {b off : Nat} {l : List Nat} (h : Ls w A b off l) (bb : Below w.heap.size w w') : Ls w' A b off l :=
  ⟨h.ad, h.row.below bb, h.few, h.small⟩
set_option maxRecDepth 100000 in
set_option maxHeartbeats 4000000 in
/-- A block by its lengths. -/
theorem codedW (S G B : Nat) (s : ByteArray) (p : Nat) (v : Value) (out : List UInt8) (most F : Nat) (A1 A2 : Option Addr) (b1 o1 c1 b2 o2 c2 : Nat) (l1 l2 : List Nat) (w : World) (h : St w S G B s p v out most) (hs : s.size ≤ 1048576) (hp : p ≤ 8 * s.size) (hm : most ≤ 65000) (ho : out.length ≤ most)
    (hF : 8 * s.size - p < F) (h1 : Ls w A1 b1 o1 l1) (h2 : Ls w A2 b2 o2 l2) (hB : B ≤ w.heap.size) :
    Calls Try.prog 65 #[.pointer (some ⟨S, 0, none⟩), .slice A1 l1.length c1, .slice A2 l2.length c2] w fun e w' => Did (symsF (cdsOf l1) (cdsOf l2) most F out (numS s) (8 * s.size) p) (outK S G B s most) e w' ∧ Kp TP B w w' := by
  have HT := hid h
  have HN1 := hid (newP A1 b1 o1 c1 l1 w h1)
  have HN2 := hid (fun W (hw : Ls W A2 b2 o2 l2) => newP A2 b2 o2 c2 l2 W hw)
  have HL2 := hid h2
  obtain ⟨r0, hr0⟩ : ∃ r0, r0 = symsF (cdsOf l1) (cdsOf l2) most F out (numS s) (8 * s.size) p := ⟨_, rfl⟩
  rw [← hr0]
  have HR0 := hid hr0
  have HF := hid hF
  have HP := hid hp
  have HM := hid hm
  have HO := hid ho
  have hn1 : l1.length ≤ 300 := h1.few
  have hn2 : l2.length ≤ 300 := h2.few
  have HNN := hid (And.intro (show (cdsOf l1).n ≤ 300 from h1.few) (show (cdsOf l2).n ≤ 300 from h2.few))
  have HBB := hid hB
  clear h h1 h2 hr0 hF hp hm ho hn1 hn2 hB
  generalize cdsOf l1 = ca at *
  generalize cdsOf l2 = cb at *
  go_enter Try.func65, Try.ntmps65
  go_wp2_with fail
  refine HN1.out.mono ?_
  rintro e w1 ⟨⟨dv1, ok1, rfl, hd1⟩, bb1⟩
  have HB1 := hid bb1
  have HD1 := hid hd1
  clear bb1 hd1
  go_wp2_with fail
  refine (HN2.out _ (HL2.out.grow HB1.out)).mono ?_
  rintro e w2 ⟨⟨dv2, ok2, rfl, hd2⟩, bb2⟩
  have HD2 := hid hd2
  have HD1' := hid (HD1.out.grow bb2)
  have HB2 := hid (HB1.out.trans (bb2.mono HB1.out.size))
  clear bb2 hd2 HD1
  have HS2 := hid (HT.out.grow HB2.out)
  have HK2 := hid (Kp.of_below (T := TP) HB2.out HBB.out)
  go_wp2_with fail
  go_loopg [] (8 * s.size - p) (fun gk wr => ∃ (p' F' : Nat) (v' : Value) (out' : List UInt8), gk = 8 * s.size - p' ∧ p' ≤ 8 * s.size ∧ 8 * s.size - p' < F' ∧ out'.length ≤ most ∧ St wr S G B s p' v' out' most ∧ Kp TP B w wr ∧ DcV wr ca dv1 ∧ DcV wr cb dv2 ∧ symsF ca cb most F' out' (numS s) (8 * s.size) p' = r0)
  case atStart => exact ⟨p, F, v, out, rfl, HP.out, HF.out, HO.out, HS2.out, HK2.out, HD1'.out, HD2.out, HR0.out.symm⟩
  case round =>
    obtain ⟨p', F', v', out', rfl, hp', hF', ho', hst, hkp, hda, hdb, hr⟩ := hrel
    have HST := hid hst
    have HKP := hid hkp
    have HDA := hid hda
    have HDB := hid hdb
    obtain ⟨F2, rfl⟩ : ∃ F2, F' = F2 + 1 := ⟨F' - 1, by omega⟩
    unfold symsF at hr
    have HSY := hid (symbol S G B s p' v' out' most ca dv1 wr hst hda hs hp')
    clear hst hkp hda hdb
    cases hc : ca.read (numS s) (8 * s.size) p' with
    | bad f =>
      rw [hc] at HSY
      rw [bind_bad hc] at hr
      have HR := hid hr
      clear hr hc
      go_wp2_with fail
      refine HSY.out.mono ?_
      rintro e w3 ⟨hd, k3⟩
      obtain rfl := hd.bad
      clear hd
      have K3 := hid (HKP.out.trans k3)
      clear k3
      go_wp2_with fail
      refine ⟨rfl, ?_, K3.out⟩
      rw [← HR.out]
      rfl
    | ok c q =>
      rw [hc] at HSY
      rw [bind_ok hc] at hr
      obtain ⟨i1, i2, i3⟩ := read_of hc
      have hc300 : c < 300 := by have := HNN.out; omega
      clear hc i1
      by_cases h256 : c = 256
      · rw [if_pos h256] at hr
        have HR := hid hr
        subst h256
        clear hr
        go_wp2_with fail
        refine HSY.out.mono ?_
        rintro e w3 ⟨⟨_, rfl, rfl, h3⟩, k3⟩
        have H3 := hid h3
        have K3 := hid (HKP.out.trans k3)
        clear h3 k3
        go_wp2_with fail
        go_returns
        refine ⟨?_, K3.out⟩
        rw [← HR.out]
        exact ⟨_, rfl, rfl, _, H3.out⟩
      · rw [if_neg h256] at hr
        have b256 : ((c : Int) == 256) = false := by simp; omega
        by_cases hlt : c < 256
        · rw [if_pos hlt] at hr
          have g256 : (c : Int) < 256 := by omega
          have HRM := hid (fun W (hw : St W S G B s q v' out' most) => room S G B s q 1 v' out' most W hw (by omega) (by have := HM.out; omega) (by have := HM.out; omega))
          unfold roomR at HRM
          by_cases hroom : out'.length + 1 ≤ most
          · rw [if_pos hroom] at hr HRM
            have HR := hid hr
            obtain ⟨i0, hi, hz0, hz1, hz2⟩ := info_parts info5
            have HI := hid hi
            have HL1 := hid (show out'.length + 1 ≤ maxLen by have := HM.out; unfold maxLen; omega)
            have HLL := hid (show (out'.length + 1) * 1 ≤ 140737488355328 by have := HM.out; omega)
            have HCV := hid (show byteCells [UInt8.ofNat c] = [Value.int .u8 (c : Int)] by
              unfold byteCells
              rw [List.map_cons, show (UInt8.ofNat c).toNat = c by simp; omega]
              rfl)
            have w8 : IntKind.u8.wrap (c : Int) = (c : Int) := by rw [IntKind.wrap_u8]; omega
            clear hr hi h256
            go_wp2_with fail
            refine HSY.out.mono ?_
            rintro e w3 ⟨⟨_, rfl, rfl, h3⟩, k3⟩
            have H3 := hid h3
            have K3 := hid (HKP.out.trans k3)
            have DA3 := hid (HDA.out.kp k3)
            have DB3 := hid (HDB.out.kp k3)
            clear h3 k3
            go_wp2_with fail
            refine (HRM.out _ H3.out).mono ?_
            rintro e w4 ⟨⟨_, rfl, rfl, h4⟩, k4⟩
            have H4 := hid h4
            have K4 := hid (K3.out.trans k4)
            have DA4 := hid (DA3.out.kp k4)
            have DB4 := hid (DB3.out.kp k4)
            clear h4 k4
            have cc1 := H4.out.c1
            have f1 := H4.out.free 1
            have HBW := hid (H4.out.size)
            go_wp2_with (at_builtin; (refine wpList_append_lies _ (by rfl) _ _ _ (by rfl) B 5 i0 (.int .u8 0) 1 1 und63 HI.out hz0 hz1 hz2 (by rfl) (by decide) v' out'.length _ (by rfl) (H4.out.own.alloc _) ⟨w4.heap.size, 0, none⟩ 1 1 [.int .u8 (c : Int)] (by rfl) (by rfl) (World.news_of_block (heap_alloc_new _ _)) (by simp [Value.oneCell']) (by decide) HL1.out HLL.out (by have := HBW.out; simp; omega) (w4.heap.size + 1) (by simp) ?_); intro g1 cap1 w5 hown1 hgrow1 hat1 hlt1; rw [← HCV.out] at hown1; obtain ⟨d0, d1, d2, d3⟩ := St.more (l := [UInt8.ofNat c]) (a := w4) (H4.out.grow ((Below.refl _ _).alloc (Nat.le_refl _) _)) ((Kp.refl TP B w4).alloc HBW.out _) hgrow1 hown1; have D2 := hid d2; have D3 := hid d3; clear d2 d3 hown1 hgrow1 hat1)
            try (go_wp2_with fail)
            go_roundg (8 * s.size - q)
            case measure => omega
            case rel => exact ⟨q, F2, _, _, rfl, i3, by omega, by simp; omega, D2.out, K4.out.trans D3.out, DA4.out.kp D3.out, DB4.out.kp D3.out, HR.out⟩
          · rw [if_neg hroom] at hr HRM
            have HR := hid hr
            clear hr h256
            go_wp2_with fail
            refine HSY.out.mono ?_
            rintro e w3 ⟨⟨_, rfl, rfl, h3⟩, k3⟩
            have H3 := hid h3
            have K3 := hid (HKP.out.trans k3)
            clear h3 k3
            go_wp2_with fail
            refine (HRM.out _ H3.out).mono ?_
            rintro e w4 ⟨hd, k4⟩
            obtain rfl := hd.bad
            clear hd
            have K4 := hid (K3.out.trans k4)
            clear k4
            go_wp2_with fail
            refine ⟨rfl, ?_, K4.out⟩
            rw [← HR.out]
            rfl
        · rw [if_neg hlt] at hr
          have g256 : ¬ (c : Int) < 256 := by omega
          have HSL := hid (fun W (hw : St W S G B s q v' out' most) => signedL S G B s q c (lbits c) (lof c) v' out' most W hw hs i3 (fun W => Sg.longBits _ _ W (lbits_is c) (by omega) (by omega)) (fun m W hm => Sg.longOf _ _ _ _ W (lof_is c m) (by omega) (by omega) (by omega) (by omega)) (lbits_le c).1 (fun m hm => by have := lof_in c m hm; omega))
          cases hsl : signedP (lbits c) (lof c) (numS s) (8 * s.size) q with
          | bad f =>
            rw [hsl] at HSL
            rw [bind_bad hsl] at hr
            have HR := hid hr
            clear hr hsl h256
            go_wp2_with fail
            refine HSY.out.mono ?_
            rintro e w3 ⟨⟨_, rfl, rfl, h3⟩, k3⟩
            have H3 := hid h3
            have K3 := hid (HKP.out.trans k3)
            have DA3 := hid (HDA.out.kp k3)
            have DB3 := hid (HDB.out.kp k3)
            clear h3 k3
            go_wp2_with fail
            refine (HSL.out _ H3.out).mono ?_
            rintro e w4 ⟨hd, k4⟩
            obtain rfl := hd.bad
            clear hd
            have K4 := hid (K3.out.trans k4)
            clear k4
            go_wp2_with fail
            refine ⟨rfl, ?_, K4.out⟩
            rw [← HR.out]
            rfl
          | ok long q2 =>
            rw [hsl] at HSL
            rw [bind_ok hsl] at hr
            obtain ⟨j1, j2, j3, j4⟩ := long_of hsl
            have j5 := j4 i3
            have HSB := hid (fun W (hw : St W S G B s q2 v' out' most) (hd : DcV W cb dv2) => symbol S G B s q2 v' out' most cb dv2 W hw hd hs j5)
            clear hsl h256
            cases hd : cb.read (numS s) (8 * s.size) q2 with
            | bad f =>
              rw [hd] at HSB
              rw [bind_bad hd] at hr
              have HR := hid hr
              clear hr hd
              go_wp2_with fail
              refine HSY.out.mono ?_
              rintro e w3 ⟨⟨_, rfl, rfl, h3⟩, k3⟩
              have H3 := hid h3
              have K3 := hid (HKP.out.trans k3)
              have DA3 := hid (HDA.out.kp k3)
              have DB3 := hid (HDB.out.kp k3)
              clear h3 k3
              go_wp2_with fail
              refine (HSL.out _ H3.out).mono ?_
              rintro e w4 ⟨⟨_, rfl, rfl, h4⟩, k4⟩
              have H4 := hid h4
              have K4 := hid (K3.out.trans k4)
              have DA4 := hid (DA3.out.kp k4)
              have DB4 := hid (DB3.out.kp k4)
              clear h4 k4
              go_wp2_with fail
              refine (HSB.out _ H4.out DB4.out).mono ?_
              rintro e w5 ⟨hd, k5⟩
              obtain rfl := hd.bad
              clear hd
              have K5 := hid (K4.out.trans k5)
              clear k5
              go_wp2_with fail
              refine ⟨rfl, ?_, K5.out⟩
              rw [← HR.out]
              rfl
            | ok d q3 =>
              rw [hd] at HSB
              rw [bind_ok hd] at hr
              obtain ⟨k1, k2, k3⟩ := read_of hd
              have hd300 : d < 300 := by have := HNN.out; omega
              have HBK := hid (fun W (hw : St W S G B s q3 v' out' most) => signedB S G B s q3 d (Go.Proofs.Sym.backBits (d : Int)) (bof d) v' out' most W hw hs k3 (fun W => Sg.backBitsP _ W (by omega) (by omega)) (fun m W hm => Sg.backOf _ _ _ _ W (bof_is d m) (by omega) (by omega) (by omega) (by omega)) (bbits_le d).1 (fun m hm => by have := bof_in d m hm; omega))
              clear hd k1
              cases hbk : signedP (Go.Proofs.Sym.backBits (d : Int)) (bof d) (numS s) (8 * s.size) q3 with
              | bad f =>
                rw [hbk] at HBK
                rw [bind_bad hbk] at hr
                have HR := hid hr
                clear hr hbk
                go_wp2_with fail
                refine HSY.out.mono ?_
                rintro e w3 ⟨⟨_, rfl, rfl, h3⟩, k3⟩
                have H3 := hid h3
                have K3 := hid (HKP.out.trans k3)
                have DA3 := hid (HDA.out.kp k3)
                have DB3 := hid (HDB.out.kp k3)
                clear h3 k3
                go_wp2_with fail
                refine (HSL.out _ H3.out).mono ?_
                rintro e w4 ⟨⟨_, rfl, rfl, h4⟩, k4⟩
                have H4 := hid h4
                have K4 := hid (K3.out.trans k4)
                have DA4 := hid (DA3.out.kp k4)
                have DB4 := hid (DB3.out.kp k4)
                clear h4 k4
                go_wp2_with fail
                refine (HSB.out _ H4.out DB4.out).mono ?_
                rintro e w5 ⟨⟨_, rfl, rfl, h5⟩, k5⟩
                have H5 := hid h5
                have K5 := hid (K4.out.trans k5)
                have DA5 := hid (DA4.out.kp k5)
                have DB5 := hid (DB4.out.kp k5)
                clear h5 k5
                go_wp2_with fail
                refine (HBK.out _ H5.out).mono ?_
                rintro e w6 ⟨hd, k6⟩
                obtain rfl := hd.bad
                clear hd
                have K6 := hid (K5.out.trans k6)
                clear k6
                go_wp2_with fail
                refine ⟨rfl, ?_, K6.out⟩
                rw [← HR.out]
                rfl
              | ok back q4 =>
                rw [hbk] at HBK
                rw [bind_ok hbk] at hr
                obtain ⟨n1, n2, n3, n4⟩ := back_of hbk
                have n5 := n4 k3
                have HRP := hid (fun W (hw : St W S G B s q4 v' out' most) => repeatW S G B s q4 long back v' out' most W hw (by omega) n1 (by omega) (by have := HM.out; omega) ho' (numS s) (8 * s.size))
                clear hbk
                cases hrp : repeatP most out' long back (numS s) (8 * s.size) q4 with
                | bad f =>
                  rw [hrp] at HRP
                  rw [bind_bad hrp] at hr
                  have HR := hid hr
                  clear hr hrp
                  go_wp2_with fail
                  refine HSY.out.mono ?_
                  rintro e w3 ⟨⟨_, rfl, rfl, h3⟩, k3⟩
                  have H3 := hid h3
                  have K3 := hid (HKP.out.trans k3)
                  have DA3 := hid (HDA.out.kp k3)
                  have DB3 := hid (HDB.out.kp k3)
                  clear h3 k3
                  go_wp2_with fail
                  refine (HSL.out _ H3.out).mono ?_
                  rintro e w4 ⟨⟨_, rfl, rfl, h4⟩, k4⟩
                  have H4 := hid h4
                  have K4 := hid (K3.out.trans k4)
                  have DA4 := hid (DA3.out.kp k4)
                  have DB4 := hid (DB3.out.kp k4)
                  clear h4 k4
                  go_wp2_with fail
                  refine (HSB.out _ H4.out DB4.out).mono ?_
                  rintro e w5 ⟨⟨_, rfl, rfl, h5⟩, k5⟩
                  have H5 := hid h5
                  have K5 := hid (K4.out.trans k5)
                  have DA5 := hid (DA4.out.kp k5)
                  have DB5 := hid (DB4.out.kp k5)
                  clear h5 k5
                  go_wp2_with fail
                  refine (HBK.out _ H5.out).mono ?_
                  rintro e w6 ⟨⟨_, rfl, rfl, h6⟩, k6⟩
                  have H6 := hid h6
                  have K6 := hid (K5.out.trans k6)
                  have DA6 := hid (DA5.out.kp k6)
                  have DB6 := hid (DB5.out.kp k6)
                  clear h6 k6
                  go_wp2_with fail
                  refine (HRP.out _ H6.out).mono ?_
                  rintro e w7 ⟨hd, k7⟩
                  obtain rfl := hd.bad
                  clear hd
                  have K7 := hid (K6.out.trans k7)
                  clear k7
                  go_wp2_with fail
                  refine ⟨rfl, ?_, K7.out⟩
                  rw [← HR.out]
                  rfl
                | ok out2 q5 =>
                  rw [hrp] at HRP
                  rw [bind_ok hrp] at hr
                  obtain ⟨t1, rfl, _⟩ := repeat_of hrp
                  have HR := hid hr
                  clear hr hrp
                  go_wp2_with fail
                  refine HSY.out.mono ?_
                  rintro e w3 ⟨⟨_, rfl, rfl, h3⟩, k3⟩
                  have H3 := hid h3
                  have K3 := hid (HKP.out.trans k3)
                  have DA3 := hid (HDA.out.kp k3)
                  have DB3 := hid (HDB.out.kp k3)
                  clear h3 k3
                  go_wp2_with fail
                  refine (HSL.out _ H3.out).mono ?_
                  rintro e w4 ⟨⟨_, rfl, rfl, h4⟩, k4⟩
                  have H4 := hid h4
                  have K4 := hid (K3.out.trans k4)
                  have DA4 := hid (DA3.out.kp k4)
                  have DB4 := hid (DB3.out.kp k4)
                  clear h4 k4
                  go_wp2_with fail
                  refine (HSB.out _ H4.out DB4.out).mono ?_
                  rintro e w5 ⟨⟨_, rfl, rfl, h5⟩, k5⟩
                  have H5 := hid h5
                  have K5 := hid (K4.out.trans k5)
                  have DA5 := hid (DA4.out.kp k5)
                  have DB5 := hid (DB4.out.kp k5)
                  clear h5 k5
                  go_wp2_with fail
                  refine (HBK.out _ H5.out).mono ?_
                  rintro e w6 ⟨⟨_, rfl, rfl, h6⟩, k6⟩
                  have H6 := hid h6
                  have K6 := hid (K5.out.trans k6)
                  have DA6 := hid (DA5.out.kp k6)
                  have DB6 := hid (DB5.out.kp k6)
                  clear h6 k6
                  go_wp2_with fail
                  refine (HRP.out _ H6.out).mono ?_
                  rintro e w7 ⟨⟨_, rfl, rfl, v7, h7⟩, k7⟩
                  have H7 := hid h7
                  have K7 := hid (K6.out.trans k7)
                  have DA7 := hid (DA6.out.kp k7)
                  have DB7 := hid (DB6.out.kp k7)
                  clear h7 k7
                  try (go_wp2_with fail)
                  go_roundg (8 * s.size - q5)
                  case measure => omega
                  case rel => exact ⟨q5, F2, v7, out2, rfl, n5, by omega, t1, H7.out, K7.out, DA7.out, DB7.out, HR.out⟩
end Inf
end Go.Proofs.Ytlfohihmkfphhaa
