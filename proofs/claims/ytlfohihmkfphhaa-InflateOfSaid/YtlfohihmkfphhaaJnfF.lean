/- INFLATE: the row of a block's own lengths, of the program. -/
import Derived.Test.YtlfohihmkfphhaaJnfC
namespace Go.Proofs.Ytlfohihmkfphhaa
set_option linter.unusedVariables false
open Go.RowKit
open Go.Proofs.Huf
attribute [local go_sem ↓] Go.wp_at_zero Go.wp_at_succ
namespace Inf
open Huff
theorem kept_ints {w w' : World} {B n k : Nat} {v : Value} {xs : List Value} {t : TypeId} {r : Nat × Nat} {cs : Array Value} (ho : w.ownsRow B 3 1 v n xs) (hg : w.grownBy w' v.ownBlock) (hb : w.heap[k]? = some (.cells cs t r)) (ht : t ≠ 3) :
    w'.heap[k]? = some (.cells cs t r) := by
  have hlt := (Array.getElem?_eq_some_iff.1 hb).1
  have hne : some k ≠ v.ownBlock := by
    intro e
    rcases ho.2 with ⟨rfl, rfl⟩ | ⟨g, cap, cur, rfl, _, hgc, _⟩
    · simp [Value.ownBlock] at e
    · simp only [Value.ownBlock, Option.some.injEq] at e
      subst e
      rw [hb] at hgc
      simp only [Option.some.injEq, Obj.cells.injEq] at hgc
      exact ht hgc.2.1
  exact (hg.block k hlt hne).trans hb
theorem St.grownI {w w' : World} {S G B C n : Nat} {s : ByteArray} {p : Nat} {v rv : Value} {out : List UInt8} {most : Nat} {xs : List Value} (h : St w S G B s p v out most) (ho : w.ownsRow C 3 1 rv n xs) (hg : w.grownBy w' rv.ownBlock) : St w' S G B s p v out most := by
  refine ⟨kept_ints ho hg h.st (by decide), kept_ints ho hg (show w.heap[G]? = _ from h.rd) (by decide), ⟨h.own.1, ?_⟩, h.lowS, h.lowG⟩
  rcases h.own.2 with hn | ⟨g, cap, cur, e, hb, hgg, h3⟩
  · exact .inl hn
  · exact .inr ⟨g, cap, cur, e, hb, kept_ints ho hg hgg (by decide), h3⟩
theorem Kp.grownI {T : List Nat} {B : Nat} {a w w' : World} {rv : Value} {n : Nat} {xs : List Value} (k : Kp T B a w) (hB : B ≤ a.heap.size) (ho : w.ownsRow a.heap.size 3 1 rv n xs) (hg : w.grownBy w' rv.ownBlock) : Kp T B a w' := by
  have hs := k.size
  refine ⟨k.below.grown hg (by omega) (fun j hj => by have := (ho.lt j hj).1; omega), fun i cs t r hi ht => ?_, fun i cs r hi hc => by
    obtain ⟨c1, h1, e1, o1⟩ := k.rdr i cs r hi hc
    exact ⟨c1, kept_ints ho hg h1 (by decide), e1, o1⟩⟩
  have hi2 := k.keep i cs t r hi ht
  refine (hg.block i (Array.getElem?_eq_some_iff.1 hi2).1 ?_).trans hi2
  intro e
  have h1 := (ho.lt i e.symm).1
  have h2 := (Array.getElem?_eq_some_iff.1 hi).1
  omega
theorem rep_sym (q t : Nat) : repV q t 0 = symV (List.replicate t q) := by unfold repV symV; simp
theorem rep_one (x t : Nat) : ∀ u ∈ repV x t 0, u.oneCell' = true := by
  intro u hu
  rw [rep_sym] at hu
  unfold symV at hu
  obtain ⟨b, _, rfl⟩ := List.mem_map.1 hu
  rfl
abbrev rowK (S G B C : Nat) (s : ByteArray) (v : Value) (out : List UInt8) (most : Nat) (l : List Nat) (q : Nat) (x : Value) (w' : World) : Prop := St w' S G B s q v out most ∧ OwnI w' C x l
set_option maxRecDepth 100000 in
set_option maxHeartbeats 4000000 in
/-- The row of lengths. -/
theorem rowW (S G B : Nat) (s : ByteArray) (p long F : Nat) (v : Value) (out : List UInt8) (most : Nat) (g : Nat → Nat) (dv : Value) (w : World) (h : St w S G B s p v out most) (hs : s.size ≤ 1048576) (hp : p ≤ 8 * s.size) (hd : DcV w ⟨g, 19, true⟩ dv) (hlong : long ≤ 330) (hF : 8 * s.size - p < F) :
    Calls Try.prog 73 #[.pointer (some ⟨S, 0, none⟩), dv, .int .i64 (long : Int)] w fun e w' => Did (rowF g long F [] (numS s) (8 * s.size) p) (rowK S G B w.heap.size s v out most) e w' ∧ Kp TP B w w' := by
  have HT := hid h
  have HD := hid hd
  obtain ⟨r0, hr0⟩ : ∃ r0, r0 = rowF g long F [] (numS s) (8 * s.size) p := ⟨_, rfl⟩
  rw [← hr0]
  have HR0 := hid hr0
  have HF := hid hF
  have HP := hid hp
  have HBS := hid h.size
  have HLO := hid hlong
  obtain ⟨i0, hi, hz0, hz1, hz2⟩ := info_parts infoI
  have HI := hid hi
  clear h hd hr0 hF hp hi
  go_enter Try.func73, Try.ntmps73
  go_wp2_with fail
  go_loopg [7] (8 * s.size - p) (fun gk rv wr => ∃ (p' F' : Nat) (l : List Nat), gk = 8 * s.size - p' ∧ p' ≤ 8 * s.size ∧ l.length ≤ 500 ∧ St wr S G B s p' v out most ∧ Kp TP B w wr ∧ OwnI wr w.heap.size rv l ∧ Small l ∧ ((l.length ≤ long ∧ 8 * s.size - p' < F' ∧ rowF g long F' l (numS s) (8 * s.size) p' = r0) ∨ (long < l.length ∧ r0 = .bad 2)))
  case atStart => exact ⟨p, F, [], rfl, HP.out, by simp, HT.out, Kp.refl _ _ _, World.ownsRow_nil _ _ _ _, (fun i hi => by simp at hi), .inl ⟨by simp, HF.out, HR0.out.symm⟩⟩
  case round =>
    obtain ⟨p', F', l, rfl, hp', hl, hst, hkp, hown, hsm, hcase⟩ := hrel
    have HST := hid hst
    have HKP := hid hkp
    have HOW := hid hown
    have HSM := hid hsm
    obtain ⟨A, cap, gg, hv7, _⟩ := OwnI.form hown
    subst hv7
    clear hst hkp hown hsm
    rcases hcase with ⟨hll, hF', hr⟩ | ⟨hgt, hr⟩
    · obtain ⟨F2, rfl⟩ : ∃ F2, F' = F2 + 1 := ⟨F' - 1, by omega⟩
      unfold rowF at hr
      by_cases hlt : l.length < long
      · rw [if_pos hlt] at hr
        have HSY := hid (symbol S G B s p' v out most ⟨g, 19, true⟩ dv wr HST.out (HD.out.kp HKP.out) hs hp')
        have hread : (⟨g, 19, true⟩ : Cds).read = sym g 19 := by unfold Cds.read; rw [if_pos rfl]
        rw [hread] at HSY
        have hlti : (l.length : Int) < (long : Int) := by omega
        cases hc : sym g 19 (numS s) (8 * s.size) p' with
        | bad f =>
          rw [hc] at HSY
          rw [bind_bad hc] at hr
          have HR := hid hr
          clear hr hc hread
          go_wp2_with fail
          refine HSY.out.mono ?_
          rintro e w3 ⟨hd, k3⟩
          obtain rfl := hd.bad
          clear hd
          have K3 := hid (HKP.out.trans k3)
          clear k3
          go_wp2_with fail
          refine ⟨rfl, ?_, K3.out⟩
          rw [← HR.out]
          rfl
        | ok c q =>
          rw [hc] at HSY
          rw [bind_ok hc] at hr
          have hc19 : c < 19 ∧ p' < q ∧ q ≤ 8 * s.size := read_of (c := ⟨g, 19, true⟩) (by rw [hread]; exact hc)
          obtain ⟨m1, m2, m3⟩ := hc19
          have HRN := hid (fun W (hw : St W S G B s q v out most) (ho : OwnI W w.heap.size (.slice A l.length cap) l) => runW S G B s q c v out most l w.heap.size _ W hw hs m3 m1 (by omega) ho)
          clear hc hread
          cases hrn : runP c l (numS s) (8 * s.size) q with
          | bad f =>
            rw [hrn] at HRN
            rw [bind_bad hrn] at hr
            have HR := hid hr
            clear hr hrn
            go_wp2_with fail
            refine HSY.out.mono ?_
            rintro e w3 ⟨⟨_, rfl, rfl, h3⟩, k3⟩
            have H3 := hid h3
            have K3 := hid (HKP.out.trans k3)
            have O3 := hid (HOW.out.kp k3)
            clear h3 k3
            go_wp2_with fail
            refine (HRN.out _ H3.out O3.out).mono ?_
            rintro e w4 ⟨hd, k4⟩
            obtain rfl := hd.bad
            clear hd
            have K4 := hid (K3.out.trans k4)
            clear k4
            go_wp2_with fail
            refine ⟨rfl, ?_, K4.out⟩
            rw [← HR.out]
            rfl
          | ok r q2 =>
            rw [hrn] at HRN
            rw [bind_ok hrn] at hr
            obtain ⟨n1, n2, n3, n4, n5⟩ := run_of m1 HSM.out hrn
            have n6 := n5 m3
            obtain ⟨x, t⟩ := r
            simp only at hr n1 n2 n3
            have HSMN := hid (small_app HSM.out x t n1)
            have HRP := hid (fun W (g2 cap2 : Nat) (hc : W.cell? ⟨g2, 0, none⟩ = some (.int .i64 (x : Int))) (hg : g2 < W.heap.size) => repeatS x t g2 cap2 n2 (by omega) W hc hg)
            have HR := hid hr
            have HL1 := hid (show l.length + t ≤ maxLen by unfold maxLen; omega)
            have HL2 := hid (show (l.length + t) * 8 ≤ 140737488355328 by omega)
            have HRS := hid (rep_sym x t)
            have HRL := hid (repV_len x t 0)
            have HN2 := hid (And.intro n2 n3)
            clear hr hrn
            go_wp2_with fail
            refine HSY.out.mono ?_
            rintro e w3 ⟨⟨_, rfl, rfl, h3⟩, k3⟩
            have H3 := hid h3
            have K3 := hid (HKP.out.trans k3)
            have O3 := hid (HOW.out.kp k3)
            clear h3 k3
            go_wp2_with fail
            refine (HRN.out _ H3.out O3.out).mono ?_
            rintro e w4 ⟨⟨_, rfl, rfl, h4⟩, k4⟩
            have H4 := hid h4
            have K4 := hid (K3.out.trans k4)
            have O4 := hid (O3.out.kp k4)
            clear h4 k4
            have HSZ := hid K4.out.size
            go_upto_region 4 with fail
            go_wp2_with (first
              | (go_at_call 92; refine (HRP.out (w4.alloc (.cells #[.int .i64 (x : Int)] 3)) w4.heap.size 1 (by rw [cell_of_row _ _ _ _ _ _ (heap_alloc_new _ _)]; rfl) (by simp)).mono ?_; rintro e w5 ⟨⟨G2, hG2, rfl, hrow⟩, bb5⟩; have HRW := hid hrow; have HB5 := hid (((Below.refl w4.heap.size w4).alloc (Nat.le_refl _) (.cells #[.int .i64 (x : Int)] 3)).trans (bb5.mono (by simp))); clear hrow bb5; have H5 := hid (H4.out.grow HB5.out); have K5 := hid (K4.out.trans (Kp.of_below (T := TP) (B := B) HB5.out (Nat.le_trans HBS.out HSZ.out))); have O5 := hid (O4.out.grow HB5.out); have HS5 := hid K5.out.size; have HNL := hid (show (repV x t 0).length = t * 1 by rw [HRL.out, Nat.mul_one, Nat.add_zero]); have HNW := hid (show ∀ j u, (repV x t 0)[j]? = some u → w5.cell? ((⟨G2, 0, none⟩ : Addr).add j) = some u from fun j u hu => (World.news_of_block HRW.out) j u hu); have HNO := hid (rep_one x t); have HT0 := hid (show 0 < t by have := HN2.out; omega))
              | (at_builtin; (refine wpList_append_lies _ (by rfl) _ _ _ (by rfl) w.heap.size 3 i0 (.int .i64 0) 1 8 und22' HI.out hz0 hz1 hz2 (by rfl) (by decide) (.slice A l.length cap) l.length _ (by rfl) O5.out ⟨G2, 0, none⟩ t t (repV x t 0) (by rfl) HNL.out HNW.out HNO.out HT0.out HL1.out HL2.out HS5.out w5.heap.size rfl ?_); intro g1 cap1 w6 hown1 hgrow1 hat1 hlt1; have D1 := hid hown1; have D2 := hid (H5.out.grownI O5.out hgrow1); have D3 := hid (K5.out.grownI HBS.out O5.out hgrow1); clear hown1 hgrow1 hat1 hlt1))
            try (go_wp2_with fail)
            go_roundg (8 * s.size - q2)
            case measure => omega
            case rel =>
              refine ⟨q2, F2, l ++ List.replicate t x, rfl, n6, by simp; omega, D2.out, D3.out, ?_, HSMN.out, ?_⟩
              · have h := D1.out
                rw [HRS.out, ← symV_append] at h
                unfold OwnI
                rw [List.length_append, List.length_replicate]
                exact h
              · by_cases hfit : l.length + t ≤ long
                · have h := HR.out
                  rw [if_pos hfit] at h
                  exact .inl ⟨by simp; exact hfit, by omega, h⟩
                · have h := HR.out
                  rw [if_neg hfit] at h
                  exact .inr ⟨by simp; omega, h.symm⟩
      · rw [if_neg hlt] at hr
        have he : l.length = long := by omega
        have HR := hid hr
        clear hr
        have g1 : ¬ (l.length : Int) < (long : Int) := by omega
        have g2 : ¬ (long : Int) < (l.length : Int) := by omega
        clear he
        go_wp2_with fail
        go_ret
        refine ⟨?_, HKP.out⟩
        rw [← HR.out]
        exact ⟨_, rfl, HST.out, HOW.out⟩
    · have HR := hid hr
      clear hr
      have g1 : ¬ (l.length : Int) < (long : Int) := by omega
      have g2 : (long : Int) < (l.length : Int) := by omega
      go_wp2_with fail
      refine ⟨rfl, ?_, HKP.out⟩
      rw [HR.out]
      rfl
end Inf
end Go.Proofs.Ytlfohihmkfphhaa
