/- INFLATE: all blocks, of the program. -/
import Derived.Test.YtlfohihmkfphhaaJnfJ
namespace Go.Proofs.Ytlfohihmkfphhaa
set_option linter.unusedVariables false
open Go.RowKit
open Go.Proofs.Huf
attribute [local go_sem ↓] Go.wp_at_zero Go.wp_at_succ
namespace Inf
open Huff
set_option maxRecDepth 100000 in
set_option maxHeartbeats 4000000 in
/-- All blocks. -/
theorem blocksW (S G B : Nat) (s : ByteArray) (p : Nat) (v : Value) (out : List UInt8) (most K F : Nat) (w : World) (h : St w S G B s p v out most) (hs : s.size ≤ 1048576) (hp : p ≤ 8 * s.size) (hm : most ≤ 65000) (ho : out.length ≤ most) (hK : 8 * s.size < K) (hF : 8 * s.size - p < F) :
    Calls Try.prog 40 #[.pointer (some ⟨S, 0, none⟩)] w fun e w' => Did (blocksF most K F out (numS s) (8 * s.size) p) (outK S G B s most) e w' ∧ Kp TP B w w' := by
  have HT := hid h
  obtain ⟨r0, hr0⟩ : ∃ r0, r0 = blocksF most K F out (numS s) (8 * s.size) p := ⟨_, rfl⟩
  rw [← hr0]
  have HR0 := hid hr0
  have HF := hid hF
  have HP := hid hp
  have HM := hid hm
  have HO := hid ho
  have HKK := hid hK
  clear h hr0 hF hp hm ho hK
  go_enter Try.func40, Try.ntmps40
  go_wp2_with fail
  go_loopg [2] (8 * s.size - p + 1) (fun gk lv wr => (lv = .bool false ∧ ∃ (p' F' : Nat) (v' : Value) (out' : List UInt8), gk = 8 * s.size - p' + 1 ∧ p' ≤ 8 * s.size ∧ 8 * s.size - p' < F' ∧ out'.length ≤ most ∧ St wr S G B s p' v' out' most ∧ Kp TP B w wr ∧ blocksF most K F' out' (numS s) (8 * s.size) p' = r0) ∨
      (lv = .bool true ∧ gk = 0 ∧ ∃ (out' : List UInt8) (p' : Nat) (v' : Value), out'.length ≤ most ∧ r0 = .ok out' p' ∧ St wr S G B s p' v' out' most ∧ Kp TP B w wr))
  case atStart => exact .inl ⟨rfl, p, F, v, out, rfl, HP.out, HF.out, HO.out, HT.out, Kp.refl _ _ _, HR0.out.symm⟩
  case round =>
    rcases hrel with ⟨rfl, p', F', v', out', rfl, hp', hF', ho', hst, hkp, hr⟩ | ⟨rfl, rfl, out', p', v', _, hr, hst, hkp⟩
    rotate_left
    · have HR := hid hr
      have HST := hid hst
      have HKP := hid hkp
      clear hr hst hkp
      go_wp2_with fail
      go_returns
      refine ⟨?_, HKP.out⟩
      rw [HR.out]
      exact ⟨_, rfl, rfl, v', HST.out⟩
    · have HST := hid hst
      have HKP := hid hkp
      obtain ⟨F2, rfl⟩ : ∃ F2, F' = F2 + 1 := ⟨F' - 1, by omega⟩
      unfold blocksF at hr
      have HN1 := hid (num S G B s p' 1 v' out' most wr hst hs (by omega) hp')
      clear hst hkp
      cases h1 : take 1 (numS s) (8 * s.size) p' with
      | bad f =>
        rw [h1] at HN1
        rw [bind_bad h1] at hr
        have HR := hid hr
        clear hr h1
        go_wp2_with fail
        refine HN1.out.mono ?_
        rintro e w1 ⟨hd, k1⟩
        obtain rfl := hd.bad
        clear hd
        have K1 := hid (HKP.out.trans k1)
        clear k1
        go_wp2_with fail
        refine ⟨rfl, ?_, K1.out⟩
        rw [← HR.out]
        rfl
      | ok n q1 =>
        rw [h1] at HN1
        rw [bind_ok h1] at hr
        have hn := take_lt h1
        obtain ⟨i1, i2⟩ := take_le h1
        have hq1m : q1 = p' + 1 := by
          unfold take at h1
          split at h1
          · cases h1; rfl
          · cases h1
        have HN2 := hid (fun W (hw : St W S G B s q1 v' out' most) => num S G B s q1 2 v' out' most W hw hs (by omega) i2)
        clear h1
        cases h2 : take 2 (numS s) (8 * s.size) q1 with
        | bad f =>
          rw [h2] at HN2
          rw [bind_bad h2] at hr
          have HR := hid hr
          clear hr h2
          go_wp2_with fail
          refine HN1.out.mono ?_
          rintro e w1 ⟨⟨_, rfl, rfl, h1⟩, k1⟩
          have H1 := hid h1
          have K1 := hid (HKP.out.trans k1)
          clear h1 k1
          go_wp2_with fail
          refine (HN2.out _ H1.out).mono ?_
          rintro e w2 ⟨hd, k2⟩
          obtain rfl := hd.bad
          clear hd
          have K2 := hid (K1.out.trans k2)
          clear k2
          go_wp2_with fail
          refine ⟨rfl, ?_, K2.out⟩
          rw [← HR.out]
          rfl
        | ok kind q2 =>
          rw [h2] at HN2
          rw [bind_ok h2] at hr
          have hk4 := take_lt h2
          obtain ⟨i3, i4⟩ := take_le h2
          clear h2
          have hgood : ∀ out2 q3, blockP most K kind out' (numS s) (8 * s.size) q2 = .ok out2 q3 → q2 ≤ q3 ∧ q3 ≤ 8 * s.size ∧ out2.length ≤ most := fun out2 q3 hb => by
            obtain ⟨a, b⟩ := (good_block most K kind out').mono _ _ _ _ _ ⟨s.size, rfl⟩ i4 hb
            exact ⟨a, b, (room_block K kind most out' _ _ _ _ _ ho' hb).2.1⟩
          by_cases k0 : kind = 0
          · subst k0
            have hblk : blockP most K 0 out' = storedP most out' := by unfold blockP; rw [if_pos rfl]
            rw [hblk] at hgood hr
            have HSD := hid (fun W (hw : St W S G B s q2 v' out' most) => storedW S G B s q2 v' out' most W hw hs i4 HM.out ho')
            clear hblk
            cases hb : storedP most out' (numS s) (8 * s.size) q2 with
            | bad f =>
              rw [hb] at HSD
              rw [bind_bad hb] at hr
              have HR := hid hr
              clear hr hb hgood
              go_wp2_with fail
              refine HN1.out.mono ?_
              rintro e w1 ⟨⟨_, rfl, rfl, h1⟩, k1⟩
              have H1 := hid h1
              have K1 := hid (HKP.out.trans k1)
              clear h1 k1
              go_wp2_with fail
              refine (HN2.out _ H1.out).mono ?_
              rintro e w2 ⟨⟨_, rfl, rfl, h2⟩, k2⟩
              have H2 := hid h2
              have K2 := hid (K1.out.trans k2)
              clear h2 k2
              go_wp2_with fail
              refine (HSD.out _ H2.out).mono ?_
              rintro e w3 ⟨hd, k3⟩
              obtain rfl := hd.bad
              clear hd
              have K3 := hid (K2.out.trans k3)
              clear k3
              go_wp2_with fail
              refine ⟨rfl, ?_, K3.out⟩
              rw [← HR.out]
              rfl
            | ok out2 q3 =>
              rw [hb] at HSD
              rw [bind_ok hb] at hr
              obtain ⟨hq3, hq4, hm2⟩ := hgood out2 q3 hb
              clear hb hgood
              go_wp2_with fail
              refine HN1.out.mono ?_
              rintro e w1 ⟨⟨_, rfl, rfl, h1⟩, k1⟩
              have H1 := hid h1
              have K1 := hid (HKP.out.trans k1)
              clear h1 k1
              go_wp2_with fail
              refine (HN2.out _ H1.out).mono ?_
              rintro e w2 ⟨⟨_, rfl, rfl, h2⟩, k2⟩
              have H2 := hid h2
              have K2 := hid (K1.out.trans k2)
              clear h2 k2
              go_wp2_with fail
              refine (HSD.out _ H2.out).mono ?_
              rintro e w3 ⟨⟨_, rfl, rfl, v3, h3⟩, k3⟩
              have H3 := hid h3
              have K3 := hid (K2.out.trans k3)
              clear h3 k3
              try (go_wp2_with fail)
              by_cases hlast : n = 1
              · have HR := hid hr
                subst hlast
                rw [if_pos rfl] at HR
                clear hr
                go_roundg 0
                case measure => omega
                case rel => exact .inr ⟨rfl, rfl, out2, q3, v3, hm2, HR.out.symm, H3.out, K3.out⟩
              · rw [if_neg hlast] at hr
                have HR := hid hr
                clear hr
                go_roundg (8 * s.size - q3 + 1)
                case measure => omega
                case rel => exact .inl ⟨by first | rfl | (simp; done) | (congr 1; simp; omega), q3, F2, v3, out2, rfl, hq4, by omega, hm2, H3.out, K3.out, HR.out⟩
          · have b0 : ((kind : Int) == 0) = false := beq_eq_false_iff_ne.2 (by omega)
            by_cases k1 : kind = 1
            · subst k1
              have hblk : blockP most K 1 out' = symsF (cdsOf fixA) (cdsOf fixB) most K out' := by unfold blockP; rw [if_neg (by decide), if_pos rfl]
              rw [hblk] at hgood hr
              have HCD := hid (fun W (hw : St W S G B s q2 v' out' most) A1 b1 c1 A2 b2 c2 (l1 : Ls W A1 b1 0 fixA) (l2 : Ls W A2 b2 0 fixB) => codedW S G B s q2 v' out' most K A1 A2 b1 0 c1 b2 0 c2 fixA fixB W hw hs i4 HM.out ho' (by have := HKK.out; omega) l1 l2 hw.size)
              have HFX := hid fixedW
              clear hblk
              generalize cdsOf fixA = ca at *
              generalize cdsOf fixB = cb at *
              generalize fixA = la at *
              generalize fixB = lb at *
              cases hb : symsF ca cb most K out' (numS s) (8 * s.size) q2 with
              | bad f =>
                rw [hb] at HCD
                rw [bind_bad hb] at hr
                have HR := hid hr
                clear hr hb hgood
                go_wp2_with fail
                refine HN1.out.mono ?_
                rintro e w1 ⟨⟨_, rfl, rfl, h1⟩, k1⟩
                have H1 := hid h1
                have K1 := hid (HKP.out.trans k1)
                clear h1 k1
                go_wp2_with fail
                refine (HN2.out _ H1.out).mono ?_
                rintro e w2 ⟨⟨_, rfl, rfl, h2⟩, k2⟩
                have H2 := hid h2
                have K2 := hid (K1.out.trans k2)
                clear h2 k2
                go_wp2_with fail
                refine (HFX.out _).mono ?_
                rintro e w3 ⟨⟨A1, b1, c1, A2, b2, c2, rfl, hl1, hl2⟩, bb3⟩
                have H3 := hid (H2.out.grow bb3)
                have K3 := hid (K2.out.trans (Kp.of_below bb3 H2.out.size))
                have L1 := hid hl1
                have L2 := hid hl2
                clear bb3 hl1 hl2
                go_wp2_with fail
                refine (HCD.out _ H3.out _ _ _ _ _ _ L1.out L2.out).mono ?_
                rintro e w4 ⟨hd, k4⟩
                obtain rfl := hd.bad
                clear hd
                have K4 := hid (K3.out.trans k4)
                clear k4
                go_wp2_with fail
                refine ⟨rfl, ?_, K4.out⟩
                rw [← HR.out]
                rfl
              | ok out2 q3 =>
                rw [hb] at HCD
                rw [bind_ok hb] at hr
                obtain ⟨hq3, hq4, hm2⟩ := hgood out2 q3 hb
                clear hb hgood
                go_wp2_with fail
                refine HN1.out.mono ?_
                rintro e w1 ⟨⟨_, rfl, rfl, h1⟩, k1⟩
                have H1 := hid h1
                have K1 := hid (HKP.out.trans k1)
                clear h1 k1
                go_wp2_with fail
                refine (HN2.out _ H1.out).mono ?_
                rintro e w2 ⟨⟨_, rfl, rfl, h2⟩, k2⟩
                have H2 := hid h2
                have K2 := hid (K1.out.trans k2)
                clear h2 k2
                go_wp2_with fail
                refine (HFX.out _).mono ?_
                rintro e w3 ⟨⟨A1, b1, c1, A2, b2, c2, rfl, hl1, hl2⟩, bb3⟩
                have H3' := hid (H2.out.grow bb3)
                have K3' := hid (K2.out.trans (Kp.of_below bb3 H2.out.size))
                have L1 := hid hl1
                have L2 := hid hl2
                clear bb3 hl1 hl2
                go_wp2_with fail
                refine (HCD.out _ H3'.out _ _ _ _ _ _ L1.out L2.out).mono ?_
                rintro e w4 ⟨⟨_, rfl, rfl, v3, h3⟩, k3⟩
                have H3 := hid h3
                have K3 := hid (K3'.out.trans k3)
                clear h3 k3
                try (go_wp2_with fail)
                by_cases hlast : n = 1
                · have HR := hid hr
                  subst hlast
                  rw [if_pos rfl] at HR
                  clear hr
                  go_roundg 0
                  case measure => omega
                  case rel => exact .inr ⟨rfl, rfl, out2, q3, v3, hm2, HR.out.symm, H3.out, K3.out⟩
                · rw [if_neg hlast] at hr
                  have HR := hid hr
                  clear hr
                  go_roundg (8 * s.size - q3 + 1)
                  case measure => omega
                  case rel => exact .inl ⟨by first | rfl | (simp; done) | (congr 1; simp; omega), q3, F2, v3, out2, rfl, hq4, by omega, hm2, H3.out, K3.out, HR.out⟩
            · have b1 : ((kind : Int) == 1) = false := beq_eq_false_iff_ne.2 (by omega)
              by_cases k2 : kind = 2
              · subst k2
                have hblk : blockP most K 2 out' = bind (tablesP K) fun t => symsF (cdsOf t.1) (cdsOf t.2) most K out' := by unfold blockP; rw [if_neg (by decide), if_neg (by decide), if_pos rfl]
                rw [hblk] at hgood hr
                have HTB := hid (fun W (hw : St W S G B s q2 v' out' most) => tablesW S G B s q2 K v' out' most W hw hs i4 (by have := HKK.out; omega))
                clear hblk
                cases ht : tablesP K (numS s) (8 * s.size) q2 with
                | bad f =>
                  rw [ht] at HTB
                  have hr2 : r0 = .bad f := by rw [← hr, bind_bad (bind_bad ht)]
                  have HR := hid hr2.symm
                  clear hr ht hgood hr2
                  go_wp2_with fail
                  refine HN1.out.mono ?_
                  rintro e w1 ⟨⟨_, rfl, rfl, h1⟩, k1⟩
                  have H1 := hid h1
                  have K1 := hid (HKP.out.trans k1)
                  clear h1 k1
                  go_wp2_with fail
                  refine (HN2.out _ H1.out).mono ?_
                  rintro e w2 ⟨⟨_, rfl, rfl, h2⟩, k2⟩
                  have H2 := hid h2
                  have K2 := hid (K1.out.trans k2)
                  clear h2 k2
                  go_wp2_with fail
                  refine (HTB.out _ H2.out).mono ?_
                  rintro e w3 ⟨hd, k3⟩
                  obtain rfl := hd.bad
                  clear hd
                  have K3 := hid (K2.out.trans k3)
                  clear k3
                  go_wp2_with fail
                  refine ⟨rfl, ?_, K3.out⟩
                  rw [← HR.out]
                  rfl
                | ok t qt =>
                  rw [ht] at HTB
                  obtain ⟨_, _, _, _, _, _, t1, t2, _⟩ := tables_of i4 ht
                  have HCD := hid (fun W (hw : St W S G B s qt v' out' most) A1 b1 o1 c1 A2 b2 o2 c2 (l1 : Ls W A1 b1 o1 t.1) (l2 : Ls W A2 b2 o2 t.2) => codedW S G B s qt v' out' most K A1 A2 b1 o1 c1 b2 o2 c2 t.1 t.2 W hw hs t2 HM.out ho' (by have := HKK.out; omega) l1 l2 hw.size)
                  cases hb : symsF (cdsOf t.1) (cdsOf t.2) most K out' (numS s) (8 * s.size) qt with
                  | bad f =>
                    rw [hb] at HCD
                    have hr2 : r0 = .bad f := by rw [← hr, bind_bad (by rw [bind_ok ht]; exact hb)]
                    have HR := hid hr2.symm
                    clear hr hb hgood hr2 ht
                    go_wp2_with fail
                    refine HN1.out.mono ?_
                    rintro e w1 ⟨⟨_, rfl, rfl, h1⟩, k1⟩
                    have H1 := hid h1
                    have K1 := hid (HKP.out.trans k1)
                    clear h1 k1
                    go_wp2_with fail
                    refine (HN2.out _ H1.out).mono ?_
                    rintro e w2 ⟨⟨_, rfl, rfl, h2⟩, k2⟩
                    have H2 := hid h2
                    have K2 := hid (K1.out.trans k2)
                    clear h2 k2
                    go_wp2_with fail
                    refine (HTB.out _ H2.out).mono ?_
                    rintro e w3 ⟨⟨_, rfl, h3, A1, b1, o1, c1, A2, b2, o2, c2, rfl, hl1, hl2, _⟩, k3⟩
                    have H3 := hid h3
                    have K3 := hid (K2.out.trans k3)
                    have L1 := hid hl1
                    have L2 := hid hl2
                    clear h3 k3 hl1 hl2
                    go_wp2_with fail
                    refine (HCD.out _ H3.out _ _ _ _ _ _ _ _ L1.out L2.out).mono ?_
                    rintro e w4 ⟨hd, k4⟩
                    obtain rfl := hd.bad
                    clear hd
                    have K4 := hid (K3.out.trans k4)
                    clear k4
                    go_wp2_with fail
                    refine ⟨rfl, ?_, K4.out⟩
                    rw [← HR.out]
                    rfl
                  | ok out2 q3 =>
                    rw [hb] at HCD
                    have hb2 : bind (tablesP K) (fun t => symsF (cdsOf t.1) (cdsOf t.2) most K out') (numS s) (8 * s.size) q2 = .ok out2 q3 := by rw [bind_ok ht]; exact hb
                    rw [bind_ok hb2] at hr
                    obtain ⟨hq3, hq4, hm2⟩ := hgood out2 q3 hb2
                    clear hb hb2 hgood ht
                    go_wp2_with fail
                    refine HN1.out.mono ?_
                    rintro e w1 ⟨⟨_, rfl, rfl, h1⟩, k1⟩
                    have H1 := hid h1
                    have K1 := hid (HKP.out.trans k1)
                    clear h1 k1
                    go_wp2_with fail
                    refine (HN2.out _ H1.out).mono ?_
                    rintro e w2 ⟨⟨_, rfl, rfl, h2⟩, k2⟩
                    have H2 := hid h2
                    have K2 := hid (K1.out.trans k2)
                    clear h2 k2
                    go_wp2_with fail
                    refine (HTB.out _ H2.out).mono ?_
                    rintro e w3 ⟨⟨_, rfl, h3, A1, b1, o1, c1, A2, b2, o2, c2, rfl, hl1, hl2, _⟩, k3⟩
                    have H3' := hid h3
                    have K3' := hid (K2.out.trans k3)
                    have L1 := hid hl1
                    have L2 := hid hl2
                    clear h3 k3 hl1 hl2
                    go_wp2_with fail
                    refine (HCD.out _ H3'.out _ _ _ _ _ _ _ _ L1.out L2.out).mono ?_
                    rintro e w4 ⟨⟨_, rfl, rfl, v3, h3⟩, k3⟩
                    have H3 := hid h3
                    have K3 := hid (K3'.out.trans k3)
                    clear h3 k3
                    try (go_wp2_with fail)
                    by_cases hlast : n = 1
                    · have HR := hid hr
                      subst hlast
                      rw [if_pos rfl] at HR
                      clear hr
                      go_roundg 0
                      case measure => omega
                      case rel => exact .inr ⟨rfl, rfl, out2, q3, v3, hm2, HR.out.symm, H3.out, K3.out⟩
                    · rw [if_neg hlast] at hr
                      have HR := hid hr
                      clear hr
                      go_roundg (8 * s.size - q3 + 1)
                      case measure => omega
                      case rel => exact .inl ⟨by first | rfl | (simp; done) | (congr 1; simp; omega), q3, F2, v3, out2, rfl, hq4, by omega, hm2, H3.out, K3.out, HR.out⟩
              · have b2 : ((kind : Int) == 2) = false := beq_eq_false_iff_ne.2 (by omega)
                have hblk : blockP most K kind out' = fail 2 := by unfold blockP; rw [if_neg k0, if_neg k1, if_neg k2]
                rw [hblk, bind_bad (show (fail 2 : Rdr (List UInt8)) (numS s) (8 * s.size) q2 = .bad 2 from rfl)] at hr
                have HR := hid hr
                clear hr hblk hgood
                go_wp2_with fail
                refine HN1.out.mono ?_
                rintro e w1 ⟨⟨_, rfl, rfl, h1⟩, k1⟩
                have H1 := hid h1
                have K1 := hid (HKP.out.trans k1)
                clear h1 k1
                go_wp2_with fail
                refine (HN2.out _ H1.out).mono ?_
                rintro e w2 ⟨⟨_, rfl, rfl, h2⟩, k2⟩
                have H2 := hid h2
                have K2 := hid (K1.out.trans k2)
                clear h2 k2
                go_wp2_with fail
                refine ⟨rfl, ?_, K2.out⟩
                rw [← HR.out]
                rfl
end Inf
end Go.Proofs.Ytlfohihmkfphhaa
