/- INFLATE: a block's own lengths, of the program: the whole. -/
import Derived.Test.YtlfohihmkfphhaaJnfH
namespace Go.Proofs.Ytlfohihmkfphhaa
set_option linter.unusedVariables false
open Go.RowKit
open Go.Proofs.Huf
attribute [local go_sem ↓] Go.wp_at_zero Go.wp_at_succ
namespace Inf
open Huff
theorem OwnI.form2 {w : World} {B m : Nat} {v : Value} {o : List Nat} (h : OwnI w B v o) (hn : o.length = m) (h0 : 0 < m) :
    ∃ (g cap : Nat), v = .slice (some ⟨g, 0, none⟩) m cap ∧ g < w.heap.size ∧ m ≤ cap ∧ ∀ i, i < m → w.cell? ⟨g, i, none⟩ = some (.int .i64 ((fnL o i : Nat) : Int)) := by
  rcases h.2 with ⟨rfl, h0⟩ | ⟨g, cap, cur, rfl, _, hg, hc, _⟩
  · omega
  · refine ⟨g, cap, by rw [hn], (Array.getElem?_eq_some_iff.1 hg).1, by omega, fun i hi => ?_⟩
    rw [World.ownsRow.cellAt h i (by omega)]
    simp [symV, fnL, show i < o.length by omega]
theorem tup2 {A1 A2 : Option Addr} {n1 n2 m1 m2 c1 c2 : Nat} (h1 : n1 = m1) (h2 : n2 = m2) : Value.tuple #[.slice A1 m1 c1, .slice A2 m2 c2] = Value.tuple #[.slice A1 n1 c1, .slice A2 n2 c2] := by rw [h1, h2]
theorem okB_lx {l : List Nat} (h : l.length ≤ 300) (hs : Small l) : okB (lx l) l.length = decide (lensOk (fnL l) l.length) := by
  unfold okB
  exact decide_eq_decide.2 (lok_lx h hs)
theorem lolP_of {many X L p q : Nat} {f : Nat → Nat} (hp : p ≤ L) (h : lolP many X L p = .ok f q) : p ≤ q ∧ q ≤ L := by
  unfold lolP at h
  obtain ⟨f', m, h1, h2⟩ := bind_of h
  obtain ⟨_, a, b⟩ := lol_of _ _ _ _ _ _ _ _ (fun j => Nat.zero_le _) h1
  split at h2
  · cases h2; exact ⟨a, b hp⟩
  · cases h2
theorem lolP_bind {α : Type} (many : Nat) (g : (Nat → Nat) → Rdr α) (X L p : Nat) : bind (lolP many) g X L p = bind (lolF many 0 (fun _ => 0)) (fun f => if kindOf (wT f 19) = 1 then g f else fail 2) X L p := by
  unfold lolP bind
  cases lolF many 0 (fun _ => 0) X L p with
  | bad e => rfl
  | ok f q =>
    simp only
    by_cases hk : kindOf (wT f 19) = 1
    · simp only [if_pos hk]; rfl
    · simp only [if_neg hk]; rfl
theorem rb {w w' : World} {g : Nat} (h : ∃ cs q, w.heap[g]? = some (.cells cs 3 q)) (b : Below w.heap.size w w') : ∃ cs q, w'.heap[g]? = some (.cells cs 3 q) := by
  obtain ⟨cs, q, hg⟩ := h
  exact ⟨cs, q, (b.block g (Array.getElem?_eq_some_iff.1 hg).1).trans hg⟩
abbrev tabK (S G B : Nat) (s : ByteArray) (v : Value) (out : List UInt8) (most : Nat) (t : List Nat × List Nat) (q : Nat) (x : Value) (w' : World) : Prop := St w' S G B s q v out most ∧
  ∃ A1 b1 o1 c1 A2 b2 o2 c2, x = .tuple #[.slice A1 t.1.length c1, .slice A2 t.2.length c2] ∧ Ls w' A1 b1 o1 t.1 ∧ Ls w' A2 b2 o2 t.2 ∧ (∃ cs q, w'.heap[b1]? = some (.cells cs 3 q)) ∧ (∃ cs q, w'.heap[b2]? = some (.cells cs 3 q))
set_option maxRecDepth 100000 in
set_option maxHeartbeats 4000000 in
theorem tablesW (S G B : Nat) (s : ByteArray) (p F : Nat) (v : Value) (out : List UInt8) (most : Nat) (w : World) (h : St w S G B s p v out most) (hs : s.size ≤ 1048576) (hp : p ≤ 8 * s.size) (hF : 8 * s.size - p < F) :
    Calls Try.prog 51 #[.pointer (some ⟨S, 0, none⟩)] w fun e w' => Did (tablesP F (numS s) (8 * s.size) p) (tabK S G B s v out most) e w' ∧ Kp TP B w w' := by
  have HT := hid h
  have HN1 := hid (num S G B s p 5 v out most w h hs (by omega) hp)
  clear h
  unfold tablesP
  cases h1 : take 5 (numS s) (8 * s.size) p with
  | bad f =>
    rw [h1] at HN1
    rw [bind_bad h1]
    clear h1
    go_enter Try.func51, Try.ntmps51
    go_wp2_with fail
    refine HN1.out.mono ?_
    rintro e w1 ⟨hd, k1⟩
    obtain rfl := hd.bad
    clear hd
    have K1 := hid (k1)
    clear k1
    go_wp2_with fail
    exact ⟨rfl, rfl, K1.out⟩

  | ok a q1 =>
    rw [h1] at HN1
    rw [bind_ok h1]
    obtain ⟨i1, i2⟩ := take_le h1
    have ha := take_lt h1
    have HN2 := hid (fun W (hw : St W S G B s q1 v out most) => num S G B s q1 5 v out most W hw hs (by omega) i2)
    have ea : IntKind.i64.wrap ((a : Int) + 257) = ((a + 257 : Nat) : Int) := by rw [IntWalk.i64_in _ (by omega)]; omega
    clear h1
    cases h2 : take 5 (numS s) (8 * s.size) q1 with
    | bad f =>
      rw [h2] at HN2
      rw [bind_bad h2]
      clear h2
      go_enter Try.func51, Try.ntmps51
      go_wp2_with fail
      refine HN1.out.mono ?_
      rintro e w1 ⟨⟨_, rfl, rfl, h1⟩, k1⟩
      have H1 := hid h1
      have K1 := hid k1
      clear h1 k1
      go_wp2_with fail
      refine (HN2.out _ H1.out).mono ?_
      rintro e w2 ⟨hd, k2⟩
      obtain rfl := hd.bad
      clear hd
      have K2 := hid (K1.out.trans k2)
      clear k2
      go_wp2_with fail
      exact ⟨rfl, rfl, K2.out⟩

    | ok b q2 =>
      rw [h2] at HN2
      rw [bind_ok h2]
      obtain ⟨i3, i4⟩ := take_le h2
      have hb := take_lt h2
      have HN3 := hid (fun W (hw : St W S G B s q2 v out most) => num S G B s q2 4 v out most W hw hs (by omega) i4)
      have eb : IntKind.i64.wrap ((b : Int) + 1) = ((b + 1 : Nat) : Int) := by rw [IntWalk.i64_in _ (by omega)]; omega
      clear h2
      cases h3 : take 4 (numS s) (8 * s.size) q2 with
      | bad f =>
        rw [h3] at HN3
        rw [bind_bad h3]
        clear h3
        go_enter Try.func51, Try.ntmps51
        go_wp2_with fail
        refine HN1.out.mono ?_
        rintro e w1 ⟨⟨_, rfl, rfl, h1⟩, k1⟩
        have H1 := hid h1
        have K1 := hid k1
        clear h1 k1
        go_wp2_with fail
        refine (HN2.out _ H1.out).mono ?_
        rintro e w2 ⟨⟨_, rfl, rfl, h2⟩, k2⟩
        have H2 := hid h2
        have K2 := hid (K1.out.trans k2)
        clear h2 k2
        go_wp2_with fail
        refine (HN3.out _ H2.out).mono ?_
        rintro e w3 ⟨hd, k3⟩
        obtain rfl := hd.bad
        clear hd
        have K3 := hid (K2.out.trans k3)
        clear k3
        go_wp2_with fail
        exact ⟨rfl, rfl, K3.out⟩

      | ok k q3 =>
        rw [h3] at HN3
        rw [bind_ok h3]
        obtain ⟨i5, i6⟩ := take_le h3
        have hk := take_lt h3
        have ek : IntKind.i64.wrap ((k : Int) + 4) = ((k + 4 : Nat) : Int) := by rw [IntWalk.i64_in _ (by omega)]; omega
        clear h3
        obtain ⟨N, hN⟩ : ∃ N, a + 257 = N := ⟨_, rfl⟩
        obtain ⟨M, hM⟩ : ∃ M, b + 1 = M := ⟨_, rfl⟩
        rw [hN] at ea
        rw [hM] at eb
        rw [hN, hM]
        by_cases hab : N ≤ 286 ∧ M ≤ 30
        · rw [if_pos hab]
          obtain ⟨ha2, hb2⟩ := hab
          have ga : ¬ (286 : Int) < (N : Int) := by omega
          have gb : ¬ (30 : Int) < (M : Int) := by omega
          have HN4 := hid (fun W (hw : St W S G B s q3 v out most) => lolW S G B s q3 (k + 4) v out most W hw hs i6 (by omega))
          rw [← lolP_bind (k + 4) (fun f => bind (rowF f (N + M) F []) fun l => if tabOk l N then ret (l.take N, l.drop N) else fail 2)]
          cases h4 : lolP (k + 4) (numS s) (8 * s.size) q3 with
          | bad f =>
            rw [h4] at HN4
            rw [bind_bad h4]
            clear h4
            go_enter Try.func51, Try.ntmps51
            go_wp2_with fail
            refine HN1.out.mono ?_
            rintro e w1 ⟨⟨_, rfl, rfl, h1⟩, k1⟩
            have H1 := hid h1
            have K1 := hid (k1)
            clear h1 k1
            go_wp2_with fail
            refine (HN2.out _ H1.out).mono ?_
            rintro e w2 ⟨⟨_, rfl, rfl, h2⟩, k2⟩
            have H2 := hid h2
            have K2 := hid (K1.out.trans k2)
            clear h2 k2
            go_wp2_with fail
            refine (HN3.out _ H2.out).mono ?_
            rintro e w3 ⟨⟨_, rfl, rfl, h3⟩, k3⟩
            have H3 := hid h3
            have K3 := hid (K2.out.trans k3)
            clear h3 k3
            go_wp2_with fail
            refine (HN4.out _ H3.out).mono ?_
            rintro e w4 ⟨hd, k4⟩
            obtain rfl := hd.bad
            clear hd
            have K4 := hid (K3.out.trans k4)
            clear k4
            go_wp2_with fail
            exact ⟨rfl, rfl, K4.out⟩
          | ok f q4 =>
            rw [h4] at HN4
            rw [bind_ok h4]
            obtain ⟨i7, i8⟩ := lolP_of i6 h4
            clear h4
            have HN5 := hid (fun W dv (hw : St W S G B s q4 v out most) (hd : DcV W ⟨f, 19, true⟩ dv) => rowW S G B s q4 (N + M) F v out most f dv W hw hs i8 hd (by omega) (by omega))
            have eNM : IntKind.i64.wrap ((N : Int) + (M : Int)) = ((N + M : Nat) : Int) := by rw [IntWalk.i64_in _ (by omega)]; omega
            cases h5 : rowF f (N + M) F [] (numS s) (8 * s.size) q4 with
            | bad e5 =>
              rw [h5] at HN5
              rw [bind_bad h5]
              clear h5
              go_enter Try.func51, Try.ntmps51
              go_wp2_with fail
              refine HN1.out.mono ?_
              rintro e w1 ⟨⟨_, rfl, rfl, h1⟩, k1⟩
              have H1 := hid h1
              have K1 := hid (k1)
              clear h1 k1
              go_wp2_with fail
              refine (HN2.out _ H1.out).mono ?_
              rintro e w2 ⟨⟨_, rfl, rfl, h2⟩, k2⟩
              have H2 := hid h2
              have K2 := hid (K1.out.trans k2)
              clear h2 k2
              go_wp2_with fail
              refine (HN3.out _ H2.out).mono ?_
              rintro e w3 ⟨⟨_, rfl, rfl, h3⟩, k3⟩
              have H3 := hid h3
              have K3 := hid (K2.out.trans k3)
              clear h3 k3
              go_wp2_with fail
              refine (HN4.out _ H3.out).mono ?_
              rintro e w4 ⟨⟨dv, rfl, h4, hd4⟩, k4⟩
              have H4 := hid h4
              have D4 := hid hd4
              have K4 := hid (K3.out.trans k4)
              clear h4 k4 hd4
              go_wp2_with fail
              refine (HN5.out _ _ H4.out D4.out).mono ?_
              rintro e w5 ⟨hd, k5⟩
              obtain rfl := hd.bad
              clear hd
              have K5 := hid (K4.out.trans k5)
              clear k5
              go_wp2_with fail
              exact ⟨rfl, rfl, K5.out⟩
            | ok l q5 =>
              rw [h5] at HN5
              rw [bind_ok h5]
              obtain ⟨s1, s2, s3, s4⟩ := row_of f _ _ _ _ _ _ _ _ i8 (fun i hi => by simp at hi) (by simp) h5
              clear h5
              have HLL := hid s2
              have HPOS := hid (show 0 < N + M by omega)
              have HM1 := hid (show 1 ≤ M by omega)
              have HNB := hid (And.intro (show 257 ≤ N by omega) (And.intro ha2 (And.intro (show 1 ≤ M by omega) hb2)))
              have hlm : l.length - N = M := by omega
              have hs1 := small_take s1 N
              have hs2 := small_drop s1 N
              have he1 : (l.take N).length = N := by simp; omega
              have he2 : (l.drop N).length = M := by simp; omega
              have hf1 : ∀ i, i < N → fnL l i = fnL (l.take N) i := fun i hi => by
                unfold fnL
                simp only [List.getD_eq_getElem?_getD]
                rw [List.getElem?_take_of_lt hi]
              have hf2 : ∀ i, i < M → fnL l (N + i) = fnL (l.drop N) i := fun i hi => by
                unfold fnL
                simp only [List.getD_eq_getElem?_getD]
                rw [List.getElem?_drop]
              have ho1 : okB (lx (l.take N)) N = decide (lensOk (fnL (l.take N)) N) := by have h := okB_lx (l := l.take N) (by omega) hs1; rw [he1] at h; exact h
              have ho2 : okB (lx (l.drop N)) M = decide (lensOk (fnL (l.drop N)) M) := by have h := okB_lx (l := l.drop N) (by omega) hs2; rw [he2] at h; exact h
              have hk3 : kindI (lx (l.drop N)) M = kindOf (wT (fnL (l.drop N)) M) := by have h := kindI_lx (l := l.drop N) (by omega) hs2; rw [he2] at h; exact h
              have h256 : fnL l 256 = fnL (l.take N) 256 := hf1 256 (by omega)
              have htab : tabOk l N ↔ (0 < fnL (l.take N) 256 ∧ lensOk (fnL (l.take N)) N ∧ (kindOf (wT (fnL (l.drop N)) M) = 0 ∨ lensOk (fnL (l.drop N)) M)) := by
                unfold tabOk
                rw [hlm, h256]
              have hkl := kindI_le (lx (l.drop N)) M
              rw [hk3] at hkl
              generalize l.take N = f1 at *
              generalize l.drop N = f2 at *
              have HE1 := hid he1
              have HE2 := hid he2
              have HF1 := hid hf1
              have HF2 := hid hf2
              have HS1 := hid hs1
              have HS2 := hid hs2
              have HTB := hid htab
              have HK3 := hid hk3
              clear s1 s2 he1 he2 hf1 hf2 hs1 hs2 htab h256 hlm hk3 hkl ha hb hk ha2 hb2 hN hM
              obtain ⟨r0, hr0⟩ : ∃ r0, r0 = (if tabOk l N then ret (f1, f2) else fail 2 : Rdr (List Nat × List Nat)) (numS s) (8 * s.size) q5 := ⟨_, rfl⟩
              rw [← hr0]
              have HRT := hid (fun (h : tabOk l N) => show r0 = .ok (f1, f2) q5 from by rw [hr0, if_pos h]; rfl)
              have HRF := hid (fun (h : ¬ tabOk l N) => show r0 = .bad 2 from by rw [hr0, if_neg h]; rfl)
              have HO1 := hid ho1
              have HO2 := hid ho2
              clear hr0 ho1 ho2
              go_enter Try.func51, Try.ntmps51
              go_wp2_with fail
              refine HN1.out.mono ?_
              rintro e w1 ⟨⟨_, rfl, rfl, h1⟩, k1⟩
              have H1 := hid h1
              have K1 := hid (k1)
              clear h1 k1
              go_wp2_with fail
              refine (HN2.out _ H1.out).mono ?_
              rintro e w2 ⟨⟨_, rfl, rfl, h2⟩, k2⟩
              have H2 := hid h2
              have K2 := hid (K1.out.trans k2)
              clear h2 k2
              go_wp2_with fail
              refine (HN3.out _ H2.out).mono ?_
              rintro e w3 ⟨⟨_, rfl, rfl, h3⟩, k3⟩
              have H3 := hid h3
              have K3 := hid (K2.out.trans k3)
              clear h3 k3
              go_wp2_with fail
              refine (HN4.out _ H3.out).mono ?_
              rintro e w4 ⟨⟨dv, rfl, h4, hd4⟩, k4⟩
              have H4 := hid h4
              have D4 := hid hd4
              have K4 := hid (K3.out.trans k4)
              clear h4 k4 hd4
              go_wp2_with fail
              refine (HN5.out _ _ H4.out D4.out).mono ?_
              rintro e w5 ⟨⟨rv, rfl, h5, ho5⟩, k5⟩
              have H5 := hid h5
              have K5 := hid (K4.out.trans k5)
              obtain ⟨gr, rcap, hrv, hgr, hcapN, hcells⟩ := OwnI.form2 ho5 HLL.out HPOS.out
              subst hrv
              have I1 := hid (show Ints w5 gr 0 N (lx f1) from ⟨fun _ => hgr, fun i hi => by rw [Nat.zero_add, hcells i (by omega)]; simp only [lx]; rw [HF1.out i hi]⟩)
              have I2 := hid (show Ints w5 gr N M (lx f2) from ⟨fun _ => hgr, fun i hi => by rw [hcells (N + i) (by omega)]; simp only [lx]; rw [HF2.out i hi]⟩)
              have g2 : (N : Int) ≤ (rcap : Int) := by omega
              have hne : ¬ rcap = N := by have := HM1.out; omega
              have HC1 := hid (fun W (hi : Ints W gr 0 N (lx f1)) => by have hc := cloneW gr 0 rcap f1 W (by rw [HE1.out]; have := HNB.out; omega) (by rw [HE1.out]; have := HNB.out; omega) (by rw [HE1.out]; exact hi); rw [HE1.out] at hc; exact hc)
              have HC2 := hid (fun W (hi : Ints W gr N M (lx f2)) => by have hc := cloneW gr N (rcap - N) f2 W (by rw [HE2.out]; have := HNB.out; omega) (by rw [HE2.out]; have := HNB.out; omega) (by rw [HE2.out]; exact hi); rw [HE2.out] at hc; exact hc)
              have HB0 := hid (show Below w5.heap.size w5 w5.drew from (Below.refl _ _).drew)
              clear h5 k5 ho5 hcells hcapN hgr
              go_upto_region 7 with fail
              go_cut [2, 3] (fun x y wl => ∃ g1 c1 g2 c2, x = .slice (some ⟨g1, 0, none⟩) N c1 ∧ y = .slice (some ⟨g2, 0, none⟩) M c2 ∧ Ints wl g1 0 N (lx f1) ∧ Ints wl g2 0 M (lx f2) ∧ (∃ cs q, wl.heap[g1]? = some (.cells cs 3 q)) ∧ (∃ cs q, wl.heap[g2]? = some (.cells cs 3 q)) ∧ Below w5.heap.size w5 wl)
              case first =>
                go_region_with (first
                  | (go_at_call_of 38 (Value.slice (some ⟨gr, 0, none⟩) N rcap); refine (HC1.out _ ?_).mono ?_; (first | exact I1.out.below HBx.out | exact I1.out.below HB0.out); rintro e wl ⟨⟨g1, c1, rfl, hg1, hi1, hr1⟩, bb⟩; have HA1 := hid hi1; have HRR1 := hid hr1; (try have HRR2 := hid (rb HRR2.out bb)); have HBy := hid (show Below w5.heap.size w5 wl from (by first | exact HBx.out.trans (bb.mono HBx.out.size) | exact HB0.out.trans (bb.mono HB0.out.size))); (try have HA2 := hid (HA2.out.below bb)); clear hi1 bb hg1 hr1)
                  | (go_at_call_of 38 (Value.slice (some ⟨gr, N, none⟩) M (rcap - N)); refine (HC2.out _ ?_).mono ?_; (first | exact I2.out.below HBy.out | exact I2.out.below HB0.out); rintro e wl ⟨⟨g2, c2, rfl, hg2, hi2, hr2⟩, bb⟩; have HA2 := hid hi2; have HRR2 := hid hr2; (try have HRR1 := hid (rb HRR1.out bb)); have HBx := hid (show Below w5.heap.size w5 wl from (by first | exact HBy.out.trans (bb.mono HBy.out.size) | exact HB0.out.trans (bb.mono HB0.out.size))); (try have HA1 := hid (HA1.out.below bb)); clear hi2 bb hg2 hr2))
                all_goals go_wp2_with fail
                all_goals go_meet
                all_goals exact ⟨g1, c1, g2, c2, rfl, rfl, HA1.out, HA2.out, HRR1.out, HRR2.out, by first | exact HBx.out | exact HBy.out⟩
              case rest =>
                obtain ⟨g1, c1, g2c, c2, rfl, rfl, ha1, ha2, hrr1, hrr2, hbl⟩ := hcut
                have HQ1 := hid hrr1
                have HQ2 := hid hrr2
                clear hrr1 hrr2
                have HA1 := hid ha1
                have HA2 := hid ha2
                have H7 := hid (H5.out.grow hbl)
                have K7 := hid (K5.out.trans (Kp.of_below hbl H5.out.size))
                have c256 := ha1.at_ 256 (by have := HNB.out; omega)
                simp only [Nat.zero_add, lx] at c256
                have gN : (256 : Int) < (N : Int) := by have := HNB.out; omega
                have HG1 := hid (fun W (hi : Ints W g1 0 N (lx f1)) => by have hc := lengthsW (some ⟨g1, 0, none⟩) g1 0 N c1 (lx f1) W (fun _ => rfl) hi (by have := HNB.out; omega); rw [HO1.out] at hc; exact hc)
                have HG2 := hid (fun W (hi : Ints W g2c 0 M (lx f2)) => by have hc := lengthsW (some ⟨g2c, 0, none⟩) g2c 0 M c2 (lx f2) W (fun _ => rfl) hi (by have := HNB.out; omega); rw [HO2.out] at hc; exact hc)
                have HG3 := hid (fun W (hi : Ints W g2c 0 M (lx f2)) => by have hc := kindW (some ⟨g2c, 0, none⟩) g2c 0 M c2 (lx f2) W (fun _ => rfl) hi (by have := HNB.out; omega); rw [HK3.out] at hc; exact hc)
                clear ha1 ha2 hbl
                by_cases p0 : fnL f1 256 = 0
                · have hnot : ¬ tabOk l N := fun c => by have := HTB.out.1 c; omega
                  have HNOT := hid hnot
                  have z256 : (((fnL f1 256 : Nat) : Int) == 0) = true := by rw [p0]; rfl
                  clear hnot
                  generalize fnL f1 256 = y at *
                  go_wp2_with fail
                  refine ⟨rfl, ?_, K7.out⟩
                  rw [HRF.out HNOT.out]
                  rfl
                · have z256 : (((fnL f1 256 : Nat) : Int) == 0) = false := beq_eq_false_iff_ne.2 (by omega)
                  by_cases p1 : lensOk (fnL f1) N
                  · have h1 := decide_eq_true p1
                    rw [h1] at HG1
                    by_cases p2 : lensOk (fnL f2) M
                    · have h2 := decide_eq_true p2
                      rw [h2] at HG2
                      have HYES := hid (HTB.out.2 ⟨by omega, p1, .inr p2⟩)
                      clear p1 p2 h1 h2
                      generalize fnL f1 256 = y at *
                      go_wp2_with fail
                      refine (HG1.out _ HA1.out).mono ?_
                      rintro e w8 ⟨rfl, b8⟩
                      have A18 := hid (HA1.out.below b8)
                      have Q18 := hid (rb HQ1.out b8)
                      have Q28 := hid (rb HQ2.out b8)
                      have A28 := hid (HA2.out.below b8)
                      have H8 := hid (H7.out.grow b8)
                      have K8 := hid (K7.out.trans (Kp.of_below b8 H7.out.size))
                      clear b8
                      go_wp2_with fail
                      refine (HG2.out _ A28.out).mono ?_
                      rintro e w9 ⟨rfl, b9⟩
                      have A19 := hid (A18.out.below b9)
                      have Q19 := hid (rb Q18.out b9)
                      have Q29 := hid (rb Q28.out b9)
                      have A29 := hid (A28.out.below b9)
                      have H9 := hid (H8.out.grow b9)
                      have K9 := hid (K8.out.trans (Kp.of_below b9 H8.out.size))
                      clear b9
                      go_wp2_with fail
                      go_ret2
                      refine ⟨?_, K9.out⟩
                      rw [HRT.out HYES.out]
                      exact ⟨_, rfl, H9.out, some ⟨g1, 0, none⟩, g1, 0, c1, some ⟨g2c, 0, none⟩, g2c, 0, c2, tup2 HE1.out HE2.out, ⟨fun _ => rfl, by rw [HE1.out]; exact A19.out, by rw [HE1.out]; have := HNB.out; omega, HS1.out⟩, ⟨fun _ => rfl, by rw [HE2.out]; exact A29.out, by rw [HE2.out]; have := HNB.out; omega, HS2.out⟩, Q19.out, Q29.out⟩
                    · have h2 := decide_eq_false p2
                      rw [h2] at HG2
                      by_cases p3 : kindOf (wT (fnL f2) M) = 0
                      · have HYES := hid (HTB.out.2 ⟨by omega, p1, .inl p3⟩)
                        rw [p3] at HG3
                        clear p1 p2 h1 h2 p3
                        generalize fnL f1 256 = y at *
                        go_wp2_with fail
                        refine (HG1.out _ HA1.out).mono ?_
                        rintro e w8 ⟨rfl, b8⟩
                        have A18 := hid (HA1.out.below b8)
                        have Q18 := hid (rb HQ1.out b8)
                        have Q28 := hid (rb HQ2.out b8)
                        have A28 := hid (HA2.out.below b8)
                        have H8 := hid (H7.out.grow b8)
                        have K8 := hid (K7.out.trans (Kp.of_below b8 H7.out.size))
                        clear b8
                        go_wp2_with fail
                        refine (HG2.out _ A28.out).mono ?_
                        rintro e w9 ⟨rfl, b9⟩
                        have A19 := hid (A18.out.below b9)
                        have Q19 := hid (rb Q18.out b9)
                        have Q29 := hid (rb Q28.out b9)
                        have A29 := hid (A28.out.below b9)
                        have H9 := hid (H8.out.grow b9)
                        have K9 := hid (K8.out.trans (Kp.of_below b9 H8.out.size))
                        clear b9
                        go_wp2_with fail
                        refine (HG3.out _ A29.out).mono ?_
                        rintro e wa ⟨rfl, ba⟩
                        have A1a := hid (A19.out.below ba)
                        have Q1a := hid (rb Q19.out ba)
                        have Q2a := hid (rb Q29.out ba)
                        have A2a := hid (A29.out.below ba)
                        have Ha := hid (H9.out.grow ba)
                        have Ka := hid (K9.out.trans (Kp.of_below ba H9.out.size))
                        clear ba
                        go_wp2_with fail
                        go_ret2
                        refine ⟨?_, Ka.out⟩
                        rw [HRT.out HYES.out]
                        exact ⟨_, rfl, Ha.out, some ⟨g1, 0, none⟩, g1, 0, c1, some ⟨g2c, 0, none⟩, g2c, 0, c2, tup2 HE1.out HE2.out, ⟨fun _ => rfl, by rw [HE1.out]; exact A1a.out, by rw [HE1.out]; have := HNB.out; omega, HS1.out⟩, ⟨fun _ => rfl, by rw [HE2.out]; exact A2a.out, by rw [HE2.out]; have := HNB.out; omega, HS2.out⟩, Q1a.out, Q2a.out⟩
                      · have HNOT := hid (show ¬ tabOk l N from fun c => by rcases (HTB.out.1 c).2.2 with h | h; exact p3 h; exact p2 h)
                        have z3 : (((kindOf (wT (fnL f2) M) : Nat) : Int) == 0) = false := beq_eq_false_iff_ne.2 (by omega)
                        have z3' : (((kindOf (wT (fnL f2) M) : Nat) : Int) != 0) = true := by simp; omega
                        clear p1 p2 h1 h2
                        generalize kindOf (wT (fnL f2) M) = kk at *
                        generalize fnL f1 256 = y at *
                        go_wp2_with fail
                        refine (HG1.out _ HA1.out).mono ?_
                        rintro e w8 ⟨rfl, b8⟩
                        have A18 := hid (HA1.out.below b8)
                        have Q18 := hid (rb HQ1.out b8)
                        have Q28 := hid (rb HQ2.out b8)
                        have A28 := hid (HA2.out.below b8)
                        have H8 := hid (H7.out.grow b8)
                        have K8 := hid (K7.out.trans (Kp.of_below b8 H7.out.size))
                        clear b8
                        go_wp2_with fail
                        refine (HG2.out _ A28.out).mono ?_
                        rintro e w9 ⟨rfl, b9⟩
                        have A19 := hid (A18.out.below b9)
                        have Q19 := hid (rb Q18.out b9)
                        have Q29 := hid (rb Q28.out b9)
                        have A29 := hid (A28.out.below b9)
                        have H9 := hid (H8.out.grow b9)
                        have K9 := hid (K8.out.trans (Kp.of_below b9 H8.out.size))
                        clear b9
                        go_wp2_with fail
                        refine (HG3.out _ A29.out).mono ?_
                        rintro e wa ⟨rfl, ba⟩
                        have A1a := hid (A19.out.below ba)
                        have Q1a := hid (rb Q19.out ba)
                        have Q2a := hid (rb Q29.out ba)
                        have A2a := hid (A29.out.below ba)
                        have Ha := hid (H9.out.grow ba)
                        have Ka := hid (K9.out.trans (Kp.of_below ba H9.out.size))
                        clear ba
                        go_wp2_with fail
                        refine ⟨rfl, ?_, Ka.out⟩
                        rw [HRF.out HNOT.out]
                        rfl
                  · have h1 := decide_eq_false p1
                    rw [h1] at HG1
                    have HNOT := hid (show ¬ tabOk l N from fun c => p1 (HTB.out.1 c).2.1)
                    clear p1 h1
                    generalize fnL f1 256 = y at *
                    go_wp2_with fail
                    refine (HG1.out _ HA1.out).mono ?_
                    rintro e w8 ⟨rfl, b8⟩
                    have A18 := hid (HA1.out.below b8)
                    have Q18 := hid (rb HQ1.out b8)
                    have Q28 := hid (rb HQ2.out b8)
                    have A28 := hid (HA2.out.below b8)
                    have H8 := hid (H7.out.grow b8)
                    have K8 := hid (K7.out.trans (Kp.of_below b8 H7.out.size))
                    clear b8
                    go_wp2_with fail
                    refine ⟨rfl, ?_, K8.out⟩
                    rw [HRF.out HNOT.out]
                    rfl
        · rw [if_neg hab]
          by_cases ha2 : 286 < N
          · have ga : (286 : Int) < (N : Int) := by omega
            clear hab
            go_enter Try.func51, Try.ntmps51
            go_wp2_with fail
            refine HN1.out.mono ?_
            rintro e w1 ⟨⟨_, rfl, rfl, h1⟩, k1⟩
            have H1 := hid h1
            have K1 := hid k1
            clear h1 k1
            go_wp2_with fail
            refine (HN2.out _ H1.out).mono ?_
            rintro e w2 ⟨⟨_, rfl, rfl, h2⟩, k2⟩
            have H2 := hid h2
            have K2 := hid (K1.out.trans k2)
            clear h2 k2
            go_wp2_with fail
            refine (HN3.out _ H2.out).mono ?_
            rintro e w3 ⟨⟨_, rfl, rfl, h3⟩, k3⟩
            have H3 := hid h3
            have K3 := hid (K2.out.trans k3)
            clear h3 k3
            go_wp2_with fail

            exact ⟨rfl, rfl, K3.out⟩
          · have ga : ¬ (286 : Int) < (N : Int) := by omega
            have gb : (30 : Int) < (M : Int) := by omega
            clear hab
            go_enter Try.func51, Try.ntmps51
            go_wp2_with fail
            refine HN1.out.mono ?_
            rintro e w1 ⟨⟨_, rfl, rfl, h1⟩, k1⟩
            have H1 := hid h1
            have K1 := hid k1
            clear h1 k1
            go_wp2_with fail
            refine (HN2.out _ H1.out).mono ?_
            rintro e w2 ⟨⟨_, rfl, rfl, h2⟩, k2⟩
            have H2 := hid h2
            have K2 := hid (K1.out.trans k2)
            clear h2 k2
            go_wp2_with fail
            refine (HN3.out _ H2.out).mono ?_
            rintro e w3 ⟨⟨_, rfl, rfl, h3⟩, k3⟩
            have H3 := hid h3
            have K3 := hid (K2.out.trans k3)
            clear h3 k3
            go_wp2_with fail

            exact ⟨rfl, rfl, K3.out⟩
end Inf
end Go.Proofs.Ytlfohihmkfphhaa
