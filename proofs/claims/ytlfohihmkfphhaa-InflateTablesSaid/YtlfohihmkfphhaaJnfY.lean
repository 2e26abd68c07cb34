/- INFLATE: stored blocks, of the document. -/
import Derived.Test.YtlfohihmkfphhaaJnfX
import Derived.Test.YtlfohihmkfphhaaJnfN
import Derived.Test.YtlfohihmkfphhaaJnfE
namespace Go.Proofs.Ytlfohihmkfphhaa
set_option linter.unusedVariables false
open Go.RowKit
open Go.Proofs.Huf
attribute [local go_sem ↓] Go.wp_at_zero Go.wp_at_succ
namespace Inf
open Huff
/-- What stands then, and the bytes, if all is well. -/
def XO (w' : World) (S R : Nat) (s : ByteArray) (most : Int) (r : Res (List UInt8)) : Prop := ∃ t, Xs w' S R s t most r ∧ ∀ o q, r = .ok o q → Str t o
theorem Str.app {t : ByteArray} {l m : List UInt8} (h : Str t l) : Str (t ++ ⟨m.toArray⟩) (l ++ m) := by
  unfold Str at h ⊢
  subst h
  generalize ha : (⟨l.toArray⟩ ++ ⟨m.toArray⟩ : ByteArray) = a
  have : a.data.toList = l ++ m := by rw [← ha]; simp
  obtain ⟨a⟩ := a
  simp only at this
  rw [← this]
theorem valOr_take {n : Nat} {α : Type} {X L : Nat} {r : Res α} : valOr (on X L r (take n)) < 2 ^ n := by
  cases r with
  | bad e => exact Nat.two_pow_pos n
  | ok a p =>
    rw [on_ok]
    cases h : take n X L p with
    | bad e => exact Nat.two_pow_pos n
    | ok v q => exact take_lt h
theorem on_assoc {X L P n m : Nat} {β : Type} {r1 r2 r3 : Res Nat} (k : Nat → Rdr β) (h1 : r1 = on X L (.ok 0 P : Res Nat) (take 16)) (hn : n = valOr r1) (h2 : r2 = on X L r1 (take 16)) (hm : m = valOr r2) (h3 : r3 = must (decide (n + m = 65535)) r2) :
    (bind (take 16) fun n => bind (take 16) fun m => if n + m = 65535 then k n else fail 2) X L P = on X L r3 (k n) := by
  rw [on_ok] at h1
  subst h1
  cases e1 : take 16 X L P with
  | bad f =>
    rw [e1, on_bad] at h2
    subst h2
    rw [must_bad] at h3
    subst h3
    rw [bind_bad e1, on_bad]
  | ok v q =>
    rw [e1] at hn h2
    rw [on_ok] at h2
    have hn' : n = v := hn
    subst hn' h2
    rw [bind_ok e1]
    cases e2 : take 16 X L q with
    | bad f =>
      rw [e2, must_bad] at h3
      subst h3
      rw [bind_bad e2, on_bad]
    | ok v2 q2 =>
      rw [e2] at hm
      have hm' : m = v2 := hm
      subst hm'
      rw [e2, must_ok] at h3
      rw [bind_ok e2]
      by_cases hv : n + m = 65535
      · rw [if_pos (by simp [hv])] at h3
        subst h3
        rw [if_pos hv, on_ok]
      · rw [if_neg (by simp [hv])] at h3
        subst h3
        rw [if_neg hv, on_bad]
        rfl
theorem take_at {n X L p a q : Nat} (h : take n X L p = .ok a q) : q = p + n := by
  unfold take at h
  split at h
  · cases h; rfl
  · cases h
theorem on_at {X L P a q : Nat} {ok : Bool} {r1 r2 : Res Nat} (h1 : r1 = on X L (.ok 0 P : Res Nat) (take 16)) (h2 : r2 = on X L r1 (take 16)) (h3 : (.ok a q : Res Nat) = must ok r2) : q = P + 32 := by
  rw [on_ok] at h1
  subst h1
  cases e1 : take 16 X L P with
  | bad f =>
    rw [e1, on_bad] at h2
    subst h2
    rw [must_bad] at h3
    cases h3
  | ok v q1 =>
    rw [e1, on_ok] at h2
    subst h2
    cases e2 : take 16 X L q1 with
    | bad f =>
      rw [e2, must_bad] at h3
      cases h3
    | ok v2 q2 =>
      rw [e2, must_ok] at h3
      split at h3
      · cases h3
        have := take_at e1
        have := take_at e2
        omega
      · cases h3
set_option maxRecDepth 100000 in
set_option maxHeartbeats 1000000 in
/-- A stored block, up to its bytes. -/
theorem storedX (S R B : Nat) (s : ByteArray) (p : Nat) (t : ByteArray) (out : List UInt8) (most : Nat) (w : World) (h : Xs w S R s t (most : Int) (.ok () p)) (hS : B ≤ S) (hR : B ≤ R) (hs : s.size ≤ 1048576) (hm : most ≤ 65000) (ht : Str t out) (ho : out.length ≤ most) :
    Calls Try.prog 43 #[.pointer (some ⟨S, 0, none⟩)] w fun e w' => (e = .returned (.tuple #[]) ∧ XO w' S R s (most : Int) (storedP most out (numS s) (8 * s.size) p)) ∧ Kp TR B w w' := by
  have HT := hid h
  have c0 := h.c0
  have hp := h.inn () p rfl
  have HA := hid (refAlign R s p w (h.rd () p rfl) (by omega))
  have hu8 : up8 p ≤ 8 * s.size := by unfold up8; omega
  have hmod := up8_mod p
  have HTK := hid (fun (r : Res Nat) W (hw : Xs W S R s t (most : Int) r) => takeX S R B s 16 t (most : Int) r W hw hS hR hs (Nat.le_refl _))
  have HMU := hid (fun ok (r : Res Nat) W (hw : Xs W S R s t (most : Int) r) => mustX S R B s ok t (most : Int) r W hw hS)
  have HPU := hid (fun u (hu : u.size ≤ 1048576) (r : Res Nat) W (hw : Xs W S R s t (most : Int) r) => putX S R B s t u (most : Int) r W hw hS (by rw [ht.size]; omega) hu (by omega))
  have HSZ := hid ht.size
  have HST := hid ht
  have HAL := hid (show ∀ W, LeftF w R s (up8 p) false W → Xs W S R s t (most : Int) (.ok 0 (up8 p) : Res Nat) ∧ Kp TR B w W from fun W l => ⟨⟨(l.only.block S h.lt h.ne).trans h.st, (fun a q e => by cases e; exact l.rf), ⟨_, l.rf⟩, (fun f e => by cases e), (fun a q e => by cases e; exact hu8)⟩, h.kpR hR l.only⟩)
  unfold storedP
  rw [bind_ok (show align (numS s) (8 * s.size) p = .ok () (up8 p) from rfl)]
  generalize up8 p = P at *
  clear h ht
  obtain ⟨r1, h1⟩ : ∃ r1 : Res Nat, r1 = on (numS s) (8 * s.size) (.ok 0 P : Res Nat) (take 16) := ⟨_, rfl⟩
  obtain ⟨r2, h2⟩ : ∃ r2 : Res Nat, r2 = on (numS s) (8 * s.size) r1 (take 16) := ⟨_, rfl⟩
  have v1 : valOr r1 < 65536 := by rw [h1]; exact valOr_take
  have v2 : valOr r2 < 65536 := by rw [h2]; exact valOr_take
  have HT1 := hid (HTK.out (.ok 0 P))
  have HT2 := hid (HTK.out r1)
  rw [← h1] at HT1
  rw [← h2] at HT2
  have HM := hid (fun ok => HMU.out ok r2)
  have H1 := hid h1
  have H2 := hid h2
  clear h1 h2
  obtain ⟨n, hn⟩ : ∃ n, n = valOr r1 := ⟨_, rfl⟩
  obtain ⟨m, hm2⟩ : ∃ m, m = valOr r2 := ⟨_, rfl⟩
  rw [← hn] at HT1 v1
  rw [← hm2] at HT2 v2
  have HN := hid hn
  have HM2 := hid hm2
  clear hn hm2
  obtain ⟨r3, h3⟩ : ∃ r3 : Res Nat, r3 = must (decide (n + m = 65535)) r2 := ⟨_, rfl⟩
  have HM3 := hid (HM.out (decide (n + m = 65535)))
  rw [← h3] at HM3
  have HV := hid (on_assoc (fun n => bind (textB n) fun l => if out.length + n ≤ most then ret (out ++ l) else fail 4) H1.out HN.out H2.out HM2.out h3)
  have HQ := hid (fun a q (e : r3 = .ok a q) => on_at (a := a) (q := q) H1.out H2.out (by rw [← e]; exact h3))
  rw [HV.out]
  obtain ⟨rr, hrr⟩ : ∃ rr, rr = on (numS s) (8 * s.size) r3 ((fun n => bind (textB n) fun l => if out.length + n ≤ most then ret (out ++ l) else fail 4) n) := ⟨_, rfl⟩
  rw [← hrr]
  have HRR := hid hrr
  clear hrr
  clear HM h3 HV
  have enm : IntKind.i64.wrap ((n : Int) + (m : Int)) = ((n + m : Nat) : Int) := by rw [IntWalk.i64_in _ (by omega)]; omega
  go_enter Try.func43, Try.ntmps43
  go_wp2_with fail
  refine HA.out.mono ?_
  rintro e w1 ⟨rfl, l1⟩
  obtain ⟨x1, k1⟩ := HAL.out _ l1
  have X1 := hid x1
  have K1 := hid k1
  clear l1 x1 k1 c0
  go_wp2_with fail
  refine (HT1.out _ X1.out).mono ?_
  rintro e w2 ⟨⟨rfl, x2⟩, k2⟩
  have X2 := hid x2
  have K2 := hid (K1.out.trans k2)
  clear x2 k2
  go_wp2_with fail
  refine (HT2.out _ X2.out).mono ?_
  rintro e w3 ⟨⟨rfl, x3⟩, k3⟩
  have X3 := hid x3
  have K3 := hid (K2.out.trans k3)
  clear x3 k3
  go_wp2_with fail
  have hB : (((n : Int) + (m : Int)) == 65535) = decide (n + m = 65535) := by
    by_cases hv : n + m = 65535
    · rw [decide_eq_true hv]; exact beq_iff_eq.2 (by omega)
    · rw [decide_eq_false hv]; exact beq_eq_false_iff_ne.2 (by omega)
  rw [hB]
  clear hB HT1 HT2
  refine (HM3.out _ X3.out).mono ?_
  rintro e w4 ⟨⟨rfl, x4⟩, k4⟩
  have X4 := hid x4
  have K4 := hid (K3.out.trans k4)
  have c3 := x4.c3
  have c0 := x4.c0
  clear x4 k4 HM3 H1 H2 HN HM2
  cases r3 with
  | bad f =>
    obtain ⟨n1, n2⟩ := X4.out.told.ne rfl
    simp only [whyOf] at c3
    go_wp2_with fail
    go_returns
    rw [HRR.out, on_bad]
    exact ⟨⟨rfl, t, X4.out.as rfl (fun b q e => by cases e) (fun g e => by cases e; exact X4.out.told _ rfl), (fun o q e => by cases e)⟩, K4.out⟩
  | ok a q2 =>
    simp only [whyOf] at c3
    have hq2 := HQ.out a q2 rfl
    have hq3 : q2 ≤ 8 * s.size := X4.out.inn a q2 rfl
    clear HQ
    have hu2 : up8 q2 = q2 := up8_same (by omega)
    have hd2 : up8 q2 / 8 = q2 / 8 := by rw [hu2]
    by_cases htx : q2 + 8 * n ≤ 8 * s.size
    · have HK := hid (bind_ok (g := fun l => if out.length + n ≤ most then ret (out ++ l) else fail 4) (show textB n (numS s) (8 * s.size) q2 = .ok (bytesAt (numS s) q2 n) (q2 + 8 * n) from if_pos htx))
      have hbl := bytesAt_len (numS s) q2 n
      have HX := hid (extract_bytes s (q2 / 8) n (by omega))
      rw [show 8 * (q2 / 8) = q2 by omega] at HX
      have HTX := hid (fun W (hw : Rf W R s q2 false) => refTextP R s q2 n W hw hs (by rw [hd2]; omega))
      rw [hu2, HX.out] at HTX
      generalize bytesAt (numS s) q2 n = l at *
      have hlz : (⟨l.toArray⟩ : ByteArray).size = n := by simp [ByteArray.size, hbl]
      obtain ⟨tx, htx2⟩ : ∃ tx : ByteArray, tx = ⟨l.toArray⟩ := ⟨_, rfl⟩
      rw [← htx2] at hlz HTX
      have HP1 := hid (HPU.out tx (by omega) (.ok a (q2 + 8 * n)))
      have HAPP := hid (show Str (t ++ tx) (out ++ l) from by rw [htx2]; exact HST.out.app (m := l))
      have HTX2 := hid htx2
      clear htx2
      go_wp2_with fail
      refine (HTX.out _ (X4.out.rd _ _ rfl)).mono ?_
      rintro e w5 ⟨rfl, l5⟩
      have X5 := hid (show Xs w5 S R s t (most : Int) (.ok a (q2 + 8 * n) : Res Nat) from ⟨(l5.only.block S X4.out.lt X4.out.ne).trans X4.out.st, (fun a q e => by cases e; exact l5.rf), ⟨_, l5.rf⟩, (fun f e => by cases e), (fun a q e => by cases e; exact htx)⟩)
      have K5 := hid (K4.out.trans (X4.out.kpR hR l5.only))
      have d2 := l5.rf.c2
      clear l5 c0 c3
      have c0 := X5.out.c0
      go_wp2_with fail
      refine (HP1.out _ X5.out).mono ?_
      rintro e w6 ⟨⟨rfl, x6⟩, k6⟩
      have X6 := hid x6
      have K6 := hid (K5.out.trans k6)
      clear x6 k6
      go_wp2_with fail
      go_returns
      refine ⟨⟨rfl, ?_⟩, K6.out⟩
      rw [HRR.out, on_ok, HK.out]
      have x6 := X6.out
      rw [putR_ok, putT_ok] at x6
      have hsz := HSZ.out
      by_cases hr : out.length + n ≤ most
      · have hle : (t.size : Int) + (tx.size : Int) ≤ (most : Int) := by omega
        rw [if_pos hle, if_pos hle] at x6
        rw [if_pos hr]
        exact ⟨_, x6.as rfl (fun b q e => by cases e; exact ⟨a, rfl⟩) (fun g e => by cases e), (fun o q e => by cases e; exact HAPP.out)⟩
      · have hle : ¬ (t.size : Int) + (tx.size : Int) ≤ (most : Int) := by omega
        rw [if_neg hle, if_neg hle] at x6
        rw [if_neg hr]
        exact ⟨t, x6.as rfl (fun b q e => by cases e) (fun g e => by cases e; exact .inr (.inr rfl)), (fun o q e => by cases e)⟩
    · have HK := hid (bind_bad (g := fun l => if out.length + n ≤ most then ret (out ++ l) else fail 4) (show textB n (numS s) (8 * s.size) q2 = .bad 3 from if_neg htx))
      have HTX := hid (fun W (hw : Rf W R s q2 false) => refTextB R s q2 n W hw hs hq3 (by omega) (by rw [hd2]; omega))
      rw [hu2] at HTX
      have HP1 := hid (HPU.out ByteArray.empty (by decide) (.bad 3))
      rw [putR_bad, putT_bad] at HP1
      clear hu2 hd2
      go_wp2_with fail
      refine (HTX.out _ (X4.out.rd _ _ rfl)).mono ?_
      rintro e w5 ⟨rfl, l5⟩
      have hst5 := hid ((l5.only.block S X4.out.lt X4.out.ne).trans X4.out.st)
      have K5 := hid (K4.out.trans (X4.out.kpR hR l5.only))
      have d2 := l5.rf.c2
      have X6 := hid (show Xs (w5.setCell ⟨S, 3, none⟩ (.int .i64 3)) S R s t (most : Int) (.bad 3 : Res Nat) from ⟨heap_setCell_same w5 S 3 _ 46 _ hst5.out, (fun a q e => by cases e), ⟨_, (heap_setCell_other w5 ⟨S, 3, none⟩ R _ (fun e => X4.out.ne e.symm)).trans l5.rf⟩, (fun f e => by cases e; exact .inr (.inl rfl)), (fun a q e => by cases e)⟩)
      clear c0 c3
      have c0 : w5.cell? ⟨S, 0, none⟩ = some (.pointer (some ⟨R, 0, none⟩)) := by rw [cell_of_row w5 S 0 _ 46 (0, 0) hst5.out]; rfl
      have c3 : w5.cell? ⟨S, 3, none⟩ = some (.int .i64 0) := by rw [cell_of_row w5 S 3 _ 46 (0, 0) hst5.out]; rfl
      have f3 : w5.frozen? ⟨S, 3, none⟩ = false := frozen_of_row w5 S 3 _ 46 hst5.out
      have K6 := hid (K5.out.trans (.of_only (Only.setCell S w5 3 (.int .i64 3)) hst5.out (by decide) hS))
      clear l5
      go_wp2_with fail
      refine (HP1.out _ X6.out).mono ?_
      rintro e w7 ⟨⟨rfl, x7⟩, k7⟩
      have X7 := hid x7
      have K7 := hid (K6.out.trans k7)
      clear x7 k7
      go_wp2_with fail
      go_returns
      rw [HRR.out, on_ok, HK.out]
      exact ⟨⟨rfl, t, X7.out.as rfl (fun b q e => by cases e) (fun g e => by cases e; exact .inr (.inl rfl)), (fun o q e => by cases e)⟩, K7.out⟩
end Inf
end Go.Proofs.Ytlfohihmkfphhaa
