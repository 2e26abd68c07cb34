/- INFLATE: a block of symbols, of the document. -/
import Derived.Test.YtlfohihmkfphhaaJnfQ
import Derived.Test.YtlfohihmkfphhaaSymO
import Derived.BigRegion
namespace Go.Proofs.Ytlfohihmkfphhaa
set_option linter.unusedVariables false
open Go.RowKit
open Go.Proofs.Huf
attribute [local go_sem ↓] Go.wp_at_zero Go.wp_at_succ
namespace Inf
open Huff

theorem on_signed {β : Type} (X L : Nat) (r1 r2 r3 r4 : Res Nat) (b : Int) (f : Nat → Int × Bool) (nb : Nat) (g : Nat → Rdr β) (hnb : max b 0 = (nb : Int)) (h2 : r2 = must (decide (0 ≤ b)) r1) (h3 : r3 = on X L r2 (take nb)) (h4 : r4 = must (f (valOr r3)).2 r3) :
    on X L r1 (bind (signedP b f) g) = on X L r4 (g (f (valOr r3)).1.toNat) := by
  cases r1 with
  | bad e =>
    rw [must_bad] at h2
    subst h2
    rw [on_bad] at h3
    subst h3
    rw [must_bad] at h4
    subst h4
    rfl
  | ok a p =>
    by_cases hb : 0 ≤ b
    · rw [must_ok, if_pos (by simp [hb])] at h2
      subst h2
      rw [on_ok] at h3
      have hn : b.toNat = nb := by omega
      have hs : signedP b f = bind (take nb) fun m => if (f m).2 = true then ret (f m).1.toNat else fail 2 := by
        unfold signedP
        rw [if_neg (by omega), hn]
      rw [hs, on_ok]
      cases ht : take nb X L p with
      | bad e =>
        rw [ht] at h3
        subst h3
        rw [must_bad] at h4
        subst h4
        rw [bind_bad (bind_bad ht), on_bad]
      | ok m q =>
        rw [ht] at h3
        subst h3
        rw [must_ok] at h4
        have hv : valOr (.ok m q : Res Nat) = m := rfl
        rw [hv] at h4 ⊢
        by_cases hf : (f m).2 = true
        · rw [if_pos hf] at h4
          subst h4
          have e : bind (take nb) (fun m => if (f m).2 = true then ret (f m).1.toNat else fail 2) X L p = .ok (f m).1.toNat q := by
            rw [bind_ok ht]
            simp only [hf, if_true]
            rfl
          rw [bind_ok e, on_ok]
        · rw [if_neg hf] at h4
          subst h4
          have e : bind (take nb) (fun m => if (f m).2 = true then ret (f m).1.toNat else fail 2) X L p = .bad 2 := by
            rw [bind_ok ht]
            simp only [hf]
            rfl
          rw [bind_bad e, on_bad]
    · rw [must_ok, if_neg (by simp [hb])] at h2
      subst h2
      rw [on_bad] at h3
      subst h3
      rw [must_bad] at h4
      subst h4
      rw [on_ok, on_bad]
      have e : signedP b f X L p = .bad 2 := by
        unfold signedP
        rw [if_pos (by omega)]
        rfl
      rw [bind_bad e]
theorem on_repeat {β : Type} (X L : Nat) (r7 r8 : Res Nat) (most : Nat) (out : List UInt8) (long back : Nat) (g : List UInt8 → Rdr β) (h8 : r8 = must (decide (back ≤ out.length)) r7) :
    on X L r7 (bind (repeatP most out long back) g) = on X L r8 (if out.length + long ≤ most then g (copyT out back long) else fail 4) := by
  cases r7 with
  | bad e =>
    rw [must_bad] at h8
    subst h8
    rfl
  | ok a p =>
    rw [must_ok] at h8
    by_cases hb : back ≤ out.length
    · rw [if_pos (by simp [hb])] at h8
      subst h8
      rw [on_ok, on_ok]
      by_cases hm : out.length + long ≤ most
      · rw [if_pos hm]
        have e : repeatP most out long back X L p = .ok (copyT out back long) p := by
          unfold repeatP
          rw [if_pos hb, if_pos hm]
          rfl
        rw [bind_ok e]
      · rw [if_neg hm]
        have e : repeatP most out long back X L p = .bad 4 := by
          unfold repeatP
          rw [if_pos hb, if_neg hm]
          rfl
        rw [bind_bad e]
        rfl
    · rw [if_neg (by simp [hb])] at h8
      subst h8
      rw [on_ok, on_bad]
      have e : repeatP most out long back X L p = .bad 2 := by
        unfold repeatP
        rw [if_neg hb]
        rfl
      rw [bind_bad e]
noncomputable def restC (a b : Cds) (most F : Nat) (out : List UInt8) (long back : Nat) : Rdr (List UInt8) := bind (repeatP most out long back) (symsF a b most F)
noncomputable def restB (a b : Cds) (most F : Nat) (out : List UInt8) (long d : Nat) : Rdr (List UInt8) := bind (signedP (Go.Proofs.Sym.backBits (d : Int)) (bof d)) (restC a b most F out long)
noncomputable def restL (a b : Cds) (most F : Nat) (out : List UInt8) (long : Nat) : Rdr (List UInt8) := bind b.read (restB a b most F out long)
noncomputable def symK (a b : Cds) (most F : Nat) (out : List UInt8) (c : Nat) : Rdr (List UInt8) := if c = 256 then ret out else if c < 256 then (if out.length + 1 ≤ most then symsF a b most F (out ++ [UInt8.ofNat c]) else fail 4) else bind (signedP (lbits c) (lof c)) (restL a b most F out)
theorem symsF_succ (a b : Cds) (most F : Nat) (out : List UInt8) : symsF a b most (F + 1) out = bind a.read (symK a b most F out) := rfl
theorem symK_256 (a b : Cds) (most F : Nat) (out : List UInt8) : symK a b most F out 256 = ret out := by unfold symK; rw [if_pos rfl]
theorem symK_byte (a b : Cds) (most F : Nat) (out : List UInt8) {c : Nat} (h1 : ¬ c = 256) (h2 : c < 256) : symK a b most F out c = if out.length + 1 ≤ most then symsF a b most F (out ++ [UInt8.ofNat c]) else fail 4 := by unfold symK; rw [if_neg h1, if_pos h2]
theorem symK_long (a b : Cds) (most F : Nat) (out : List UInt8) {c : Nat} (h1 : ¬ c = 256) (h2 : ¬ c < 256) : symK a b most F out c = bind (signedP (lbits c) (lof c)) (restL a b most F out) := by unfold symK; rw [if_neg h1, if_neg h2]
theorem conv_one (W : World) (g c : Nat) (hc : c < 256) (h : W.heap[g]? = some (.cells #[.int .u8 (c : Int)] 5 (0, 0))) : (convert 63 9 (.slice (some ⟨g, 0, none⟩) 1 1)).run Try.prog W = .ok (.string ⟨#[UInt8.ofNat c]⟩) W := by
  refine run_convert_bytes_back (P := Try.prog) W 63 9 5 ⟨g, 0, none⟩ 1 [UInt8.ofNat c] und63 Try.underlying5 Try.underlying9 ?_
  intro j hj
  have hj0 : j = 0 := by simp at hj; omega
  subst hj0
  rw [show (⟨g, 0, none⟩ : Addr).add 0 = ⟨g, 0, none⟩ from rfl, cell_of_row _ _ _ _ _ _ h]
  have : (UInt8.ofNat c).toNat = c := by simp; omega
  simp [this]
theorem must_two (a b : Bool) (r : Res Nat) : must b (must a r) = must (a && b) r := by cases r <;> cases a <;> cases b <;> rfl
/-- Codes of lengths, of the document, whatever they are. -/
theorem codesL (A : Option Addr) (b off cap : Nat) (l : List Nat) (w : World) (h : Ls w A b off l) :
    Calls Try.prog 53 #[.slice A l.length cap] w fun e w' => (∃ Q n c, e = .returned (.slice Q n c) ∧ (kindOf (wT (fnL l) l.length) ≠ 3 → n = l.length ∧ ∃ C, w.heap.size ≤ C ∧ Q = some ⟨C, 0, none⟩ ∧ w'.heap[C]? = some (.cells (cdV (fnL l) l.length l.length) 47 (0, 0)))) ∧ Below w.heap.size w w' := by
  have hfine := fine_lx h.few h.small
  have hnat := natOf_lx l
  by_cases hk : kindOf (wT (fnL l) l.length) = 3
  · refine (refCodes_over A b off l.length cap (lx l) w h.ad h.row hfine (by rw [hnat]; exact hk)).mono ?_
    rintro e w' ⟨rfl, hb⟩
    exact ⟨⟨_, _, _, rfl, fun h => absurd hk h⟩, hb⟩
  · have hh := refCodes_yes A b off l.length cap (lx l) w h.ad h.row hfine (by rw [hnat]; exact hk)
    rw [hnat] at hh
    refine hh.mono ?_
    rintro e w' ⟨C, h1, rfl, h2, h3⟩
    exact ⟨⟨_, _, _, rfl, fun _ => ⟨rfl, C, h1, rfl, h2⟩⟩, h3⟩
theorem lcF_of {α : Type} {w : World} {S R : Nat} {s t : ByteArray} {most : Int} {r : Res α} {A : Option Addr} {b off C : Nat} {l : List Nat} (hx : Xs w S R s t most r) (h : Lk w A b off l) (hC : w.heap[C]? = some (.cells (cdV (fnL l) l.length l.length) 47 (0, 0))) :
    LcF w R b off (some ⟨C, 0, none⟩) (lx l) l.length := by
  obtain ⟨cr, hR⟩ := hx.blk
  refine ⟨fun i hi => ⟨?_, h.ls.row.lt (by omega), h.ls.row.at_ i hi⟩, fun i hi => ⟨C, rfl, ?_, (Array.getElem?_eq_some_iff.1 hC).1, ?_⟩⟩
  · rintro rfl
    obtain ⟨cs, q, hb⟩ := h.blk (by omega)
    rw [hR] at hb
    cases hb
  · rintro rfl
    rw [hR] at hC
    cases hC
  · rw [cell_of_row _ _ _ _ _ _ hC, cdV_at _ _ _ _ hi, if_pos hi, natOf_lx]
theorem str_snoc {t : ByteArray} {l : List UInt8} (h : Str t l) (i : Nat) (hi : i < l.length) : Str (t ++ t.extract i (i + 1)) (l ++ [l.getD i 0]) := by
  have e : t.extract i (i + 1) = ⟨[l.getD i 0].toArray⟩ := by
    unfold Str at h
    subst h
    apply ByteArray.ext
    apply Array.ext'
    simp only [ByteArray.data_extract, List.extract_toArray, List.extract_eq_take_drop]
    rw [show i + 1 - i = 1 by omega, List.take_one]
    simp [List.head?_drop, hi]
  rw [e]
  exact h.app

set_option maxRecDepth 100000 in
set_option maxHeartbeats 4000000 in
/-- A block of symbols. -/
theorem symbolsX (S R B : Nat) (s : ByteArray) (A1 A2 : Option Addr) (b1 o1 cp1 b2 o2 cp2 : Nat) (l1 l2 : List Nat) (F : Nat) (t : ByteArray) (out : List UInt8) (most : Nat) (r : Res Nat) (w : World) (h : Xs w S R s t (most : Int) r) (hS : B ≤ S) (hR : B ≤ R) (hs : s.size ≤ 1048576) (hm : most ≤ 65000)
    (hok : ∀ a q, r = .ok a q → Str t out ∧ out.length ≤ most ∧ 8 * s.size - q < F ∧ (kindOf (wT (fnL l1) l1.length) = 1 ∨ kindOf (wT (fnL l1) l1.length) = 2) ∧ (kindOf (wT (fnL l2) l2.length) = 0 ∨ kindOf (wT (fnL l2) l2.length) = 1 ∨ kindOf (wT (fnL l2) l2.length) = 2))
    (h1 : Lk w A1 b1 o1 l1) (h2 : Lk w A2 b2 o2 l2) (hB : B ≤ w.heap.size) :
    Calls Try.prog 45 #[.pointer (some ⟨S, 0, none⟩), .slice A1 l1.length cp1, .slice A2 l2.length cp2] w fun e w' => (e = .returned (.tuple #[]) ∧ XO w' S R s (most : Int) (on (numS s) (8 * s.size) r (symsF (cdsOf l1) (cdsOf l2) most F out))) ∧ Kp TR B w w' := by
  have HT := hid h
  have HTK := hid (fun n (hn : n ≤ 16) (t : ByteArray) (r : Res Nat) W (hw : Xs W S R s t (most : Int) r) => takeX S R B s n t (most : Int) r W hw hS hR hs hn)
  have HMU := hid (fun ok (t : ByteArray) (r : Res Nat) W (hw : Xs W S R s t (most : Int) r) => mustX S R B s ok t (most : Int) r W hw hS)
  have HPU := hid (fun (t u : ByteArray) (ht : t.size ≤ 1048576) (hu : u.size ≤ 1048576) (r : Res Nat) W (hw : Xs W S R s t (most : Int) r) => putX S R B s t u (most : Int) r W hw hS ht hu (by omega))
  have HC1 := hid (codesL A1 b1 o1 cp1 l1 w h1.ls)
  have HC2 := hid (fun W (hw : Ls W A2 b2 o2 l2) => codesL A2 b2 o2 cp2 l2 W hw)
  have HL1 := hid h1
  have HL2 := hid h2
  have HN1 := hid h1.ls.few
  have HN2 := hid h2.ls.few
  have HBB := hid hB
  have HMM := hid hm
  have HKD := hid (fun W (hw : Ls W A2 b2 o2 l2) => refKindW A2 b2 o2 l2.length cp2 (lx l2) W hw.ad hw.row (by have := hw.few; omega))
  rw [kindI_lx h2.ls.few h2.ls.small] at HKD
  have HNX1 := hid (fun (Q : Option Addr) (cc : Nat) (t : ByteArray) (r : Res Nat) W (hw : Xs W S R s t (most : Int) r) (hl : LcF W R b1 o1 Q (lx l1) l1.length) => nextX S R B s A1 Q b1 o1 l1.length cp1 cc (lx l1) t (most : Int) r W hw hS hR hs h1.ls.ad hl (fine_lx h1.ls.few h1.ls.small))
  have HNX2 := hid (fun (Q : Option Addr) (cc : Nat) (t : ByteArray) (r : Res Nat) W (hw : Xs W S R s t (most : Int) r) (hl : LcF W R b2 o2 Q (lx l2) l2.length) => nextX S R B s A2 Q b2 o2 l2.length cp2 cc (lx l2) t (most : Int) r W hw hS hR hs h2.ls.ad hl (fine_lx h2.ls.few h2.ls.small))
  rw [natOf_lx] at HNX1 HNX2
  obtain ⟨X, hX⟩ : ∃ X, X = numS s := ⟨_, rfl⟩
  obtain ⟨L, hL⟩ : ∃ L, L = 8 * s.size := ⟨_, rfl⟩
  rw [← hX, ← hL]
  rw [← hX, ← hL] at HTK HNX1 HNX2
  rw [← hL] at hok
  obtain ⟨rr, hrr⟩ : ∃ rr, rr = on X L r (symsF (cdsOf l1) (cdsOf l2) most F out) := ⟨_, rfl⟩
  rw [← hrr]
  have HRR := hid hrr
  have HOK := hid hok
  have HLL := hid hL
  clear hrr hX hok h h1 h2 hm
  go_enter Try.func45, Try.ntmps45
  go_wp2_with fail
  refine HC1.out.mono ?_
  rintro e w1 ⟨⟨Q1, n1, c1, rfl, hq1⟩, b1'⟩
  have HB1 := hid b1'
  have HQ1 := hid hq1
  clear b1' hq1 HC1
  go_wp2_with fail
  refine (HC2.out _ (HL2.out.grow HB1.out).ls).mono ?_
  rintro e w2 ⟨⟨Q2, n2, c2, rfl, hq2⟩, b2'⟩
  have HB2 := hid (HB1.out.trans (b2'.mono HB1.out.size))
  have HQ2 := hid hq2
  have HQ1' := hid (show kindOf (wT (fnL l1) l1.length) ≠ 3 → n1 = l1.length ∧ ∃ C, Q1 = some ⟨C, 0, none⟩ ∧ w2.heap[C]? = some (.cells (cdV (fnL l1) l1.length l1.length) 47 (0, 0)) from fun hk => by
    obtain ⟨hn, C, _, hQ, hC⟩ := HQ1.out hk
    exact ⟨hn, C, hQ, (b2'.block _ (Array.getElem?_eq_some_iff.1 hC).1).trans hC⟩)
  clear b2' hq2 HC2 HQ1
  have XZ := hid (HT.out.grow HB2.out)
  have KZ := hid (Kp.of_below (T := TR) HB2.out HBB.out)
  have LZ1 := hid (HL1.out.grow HB2.out)
  have LZ2 := hid (HL2.out.grow HB2.out)
  clear HT HL1 HL2 HB1
  have HLC1 := hid (fun W (t : ByteArray) (r : Res Nat) (hk : Kp TR B w2 W) (hx : Xs W S R s t (most : Int) r) (hkd : kindOf (wT (fnL l1) l1.length) ≠ 3) => by
    obtain ⟨hn, C, hQ, hC⟩ := HQ1'.out hkd
    have := lcF_of hx (LZ1.out.kp hk (by decide)) (hk.keep _ _ _ _ hC (by decide))
    rw [← hQ] at this
    exact this)
  have HLC2 := hid (fun W (t : ByteArray) (r : Res Nat) (hk : Kp TR B w2 W) (hx : Xs W S R s t (most : Int) r) (hkd : kindOf (wT (fnL l2) l2.length) ≠ 3) => by
    obtain ⟨hn, C, _, hQ, hC⟩ := HQ2.out hkd
    have := lcF_of hx (LZ2.out.kp hk (by decide)) (hk.keep _ _ _ _ hC (by decide))
    rw [← hQ] at this
    exact this)
  have HLK2 := hid (fun W (hk : Kp TR B w2 W) => (LZ2.out.kp hk (by decide)).ls)
  have HNQ1 := hid (fun hk => (HQ1'.out hk).1)
  have HNQ2 := hid (fun hk => (HQ2.out hk).1)
  have HG1 := hid (show (kindOf (wT (fnL l1) l1.length) = 1 ∨ kindOf (wT (fnL l1) l1.length) = 2) → (cdsOf l1).read = sym (fnL l1) l1.length from fun h => by
    unfold Cds.read
    rw [if_pos (show (cdsOf l1).any = true from decide_eq_true h)]
    rfl)
  have HG2 := hid (show (kindOf (wT (fnL l2) l2.length) = 1 ∨ kindOf (wT (fnL l2) l2.length) = 2) → (cdsOf l2).read = sym (fnL l2) l2.length from fun h => by
    unfold Cds.read
    rw [if_pos (show (cdsOf l2).any = true from decide_eq_true h)]
    rfl)
  have HG0 := hid (show kindOf (wT (fnL l2) l2.length) = 0 → (cdsOf l2).read = fail 2 from fun h => by
    unfold Cds.read
    rw [if_neg (show ¬ (cdsOf l2).any = true from by simp [cdsOf, h])])
  clear HQ1' HQ2 LZ1 LZ2
  generalize cdsOf l1 = ca at *
  generalize cdsOf l2 = cb at *
  generalize hkk1 : kindOf (wT (fnL l1) l1.length) = kd1 at *
  generalize hkk2 : kindOf (wT (fnL l2) l2.length) = kd2 at *
  clear hkk1 hkk2
  generalize fnL l1 = f1 at *
  generalize fnL l2 = f2 at *
  have HF := hid (show ∀ a q, r = .ok a q → (kd1 = 1 ∨ kd1 = 2) ∧ (kd2 = 0 ∨ kd2 = 1 ∨ kd2 = 2) from fun a q e => (HOK.out a q e).2.2.2)
  go_wp2_with fail
  go_loopg [] (meas L r) (fun gk wr => ∃ (t' : ByteArray) (out' : List UInt8) (F' : Nat) (r' : Res Nat), gk = meas L r' ∧ Xs wr S R s t' (most : Int) r' ∧ Kp TR B w2 wr ∧ (∀ a q, r' = .ok a q → Str t' out' ∧ out'.length ≤ most ∧ L - q < F' ∧ (kd1 = 1 ∨ kd1 = 2) ∧ (kd2 = 0 ∨ kd2 = 1 ∨ kd2 = 2)) ∧ rr = on X L r' (symsF ca cb most F' out'))
  case atStart => exact ⟨t, out, F, r, rfl, XZ.out, Kp.refl _ _ _, HOK.out, HRR.out⟩
  case round =>
    obtain ⟨t', out', F', r', rfl, hx, hkp, hok, hr⟩ := hrel
    have XR := hid hx
    have KR := hid hkp
    have HR := hid hr
    have c3 := XR.out.c3
    clear hx hkp hr XZ HOK HRR HF
    cases r' with
    | bad e =>
      obtain ⟨n1, n2⟩ := XR.out.told.ne rfl
      simp only [whyOf] at c3
      have HFIN := hid (show rr = .bad e from HR.out)
      go_wp2_with fail
      go_returns
      exact ⟨⟨rfl, _, XR.out.as (by rw [HFIN.out]; rfl) (fun b p h => by rw [HFIN.out] at h; cases h) (by rw [HFIN.out]; intro g h; cases h; exact XR.out.told _ rfl), fun o q h => by rw [HFIN.out] at h; cases h⟩, KZ.out.trans KR.out⟩
    | ok a q =>
      obtain ⟨hst, hol, hF', hk1, hk2⟩ := hok a q rfl
      have hqL : q ≤ L := by rw [hL]; exact XR.out.inn a q rfl
      simp only [whyOf] at c3
      obtain ⟨F2, rfl⟩ : ∃ F2, F' = F2 + 1 := ⟨F' - 1, by omega⟩
      obtain rfl := HNQ1.out (by omega)
      obtain rfl := HNQ2.out (by omega)
      have HST := hid hst
      have hts := hst.size
      have HN := hid (HNX1.out Q1 c1 t' (.ok a q))
      obtain ⟨r1, h1⟩ : ∃ r1, r1 = on X L (.ok a q : Res Nat) (sym f1 l1.length) := ⟨_, rfl⟩
      rw [← h1] at HN
      have hr1 : rr = on X L r1 (symK ca cb most F2 out' (valOr r1)) := by
        rw [HR.out, symsF_succ, HG1.out hk1, on_bind, ← h1]
      have hpos : ∀ a' q', r1 = .ok a' q' → q < q' ∧ a' < l1.length ∧ q' ≤ L := by
        intro a' q' e
        rw [h1, on_ok] at e
        have := read_of (c := ⟨f1, l1.length, true⟩) (by unfold Cds.read; rw [if_pos rfl]; exact e)
        exact ⟨this.2.1, this.1, this.2.2⟩
      have HLCR := hid (HLC1.out _ _ _ KR.out XR.out (by omega))
      clear h1 hst
      go_wp2_with fail
      refine (HN.out _ XR.out HLCR.out).mono ?_
      rintro e w3 ⟨⟨rfl, x3⟩, k3⟩
      have X3 := hid x3
      have K3 := hid (KR.out.trans k3)
      have c3 := x3.c3
      clear x3 k3 HN HLCR HNX1 HLC1
      cases r1 with
      | bad e =>
        obtain ⟨n1, n2⟩ := X3.out.told.ne rfl
        simp only [whyOf] at c3
        simp only [valOr]
        have HFIN := hid (show rr = .bad e from hr1)
        go_wp2_with fail
        go_returns
        exact ⟨⟨rfl, _, X3.out.as (by rw [HFIN.out]; rfl) (fun b p h => by rw [HFIN.out] at h; cases h) (by rw [HFIN.out]; intro g h; cases h; exact X3.out.told _ rfl), fun o q h => by rw [HFIN.out] at h; cases h⟩, KZ.out.trans K3.out⟩
      | ok c q1 =>
        obtain ⟨hq1, hcm, hq1L⟩ := hpos c q1 rfl
        have hc300 : c < 300 := by have := HN1.out; omega
        simp only [whyOf] at c3
        simp only [valOr] at hr1 ⊢
        rw [on_ok] at hr1
        by_cases h256 : c = 256
        · subst h256
          rw [symK_256] at hr1
          have HFIN := hid (show rr = .ok out' q1 from hr1)
          go_wp2_with fail
          go_returns
          exact ⟨⟨rfl, t', X3.out.as (by rw [HFIN.out]; rfl) (fun b p h => by rw [HFIN.out] at h; cases h; exact ⟨_, rfl⟩) (by rw [HFIN.out]; intro g h; cases h), fun o q h => by rw [HFIN.out] at h; cases h; exact HST.out⟩, KZ.out.trans K3.out⟩
        · have b256 : ((c : Int) == 256) = false := beq_eq_false_iff_ne.2 (by omega)
          by_cases hlt : c < 256
          · rw [symK_byte _ _ _ _ _ h256 hlt] at hr1
            have g256 : (c : Int) < 256 := by omega
            have w8 : IntKind.u8.wrap (c : Int) = (c : Int) := by rw [IntKind.wrap_u8]; omega
            have HU := hid (show Str (⟨#[UInt8.ofNat c]⟩ : ByteArray) [UInt8.ofNat c] from rfl)
            have hu1 : (⟨#[UInt8.ofNat c]⟩ : ByteArray).size = 1 := rfl
            have hmm := HMM.out
            have HP := hid (HPU.out t' ⟨#[UInt8.ofNat c]⟩ (by omega) (by omega) (.ok c q1))
            have HAPP := hid (show Str (t' ++ ⟨#[UInt8.ofNat c]⟩) (out' ++ [UInt8.ofNat c]) from HST.out.app (m := [UInt8.ofNat c]))
            have hcv : ∀ W : World, W.heap[w3.heap.size]? = some (.cells #[.int .u8 (c : Int)] 5 (0, 0)) → (convert 63 9 (.slice (some ⟨w3.heap.size, 0, none⟩) 1 1)).run Try.prog W = .ok (.string ⟨#[UInt8.ofNat c]⟩) W := fun W hW => conv_one W w3.heap.size c hlt hW
            have HCV := hid (hcv _ (heap_alloc_new w3 (.cells #[.int .u8 (c : Int)] 5)))
            have X4 := hid (X3.out.grow ((Below.refl _ _).alloc (Nat.le_refl _) (.cells #[.int .u8 (c : Int)] 5)))
            have K4 := hid (K3.out.alloc (Nat.le_trans HBB.out (Nat.le_trans HB2.out.size K3.out.size)) (.cells #[.int .u8 (c : Int)] 5))
            have cvv := HCV.out
            clear hcv h256 hpos
            go_wp2_with fail
            refine (HP.out _ X4.out).mono ?_
            rintro e w5 ⟨⟨rfl, x5⟩, k5⟩
            have X5 := hid x5
            have K5 := hid (K4.out.trans k5)
            clear x5 k5
            rw [putR_ok, putT_ok, hu1] at X5
            by_cases hroom : out'.length + 1 ≤ most
            · rw [if_pos hroom] at hr1
              rw [if_pos (show (t'.size : Int) + ((1 : Nat) : Int) ≤ (most : Int) by omega), if_pos (show (t'.size : Int) + ((1 : Nat) : Int) ≤ (most : Int) by omega)] at X5
              go_wp2_with fail
              go_roundg (meas L (.ok c q1 : Res Nat))
              case measure => simp only [meas]; omega
              case rel => exact ⟨_, out' ++ [UInt8.ofNat c], F2, .ok c q1, rfl, X5.out, K5.out, (fun a' q' e => by cases e; exact ⟨HAPP.out, by simp; omega, by omega, hk1, hk2⟩), hr1⟩
            · rw [if_neg hroom] at hr1
              rw [if_neg (show ¬ (t'.size : Int) + ((1 : Nat) : Int) ≤ (most : Int) by omega), if_neg (show ¬ (t'.size : Int) + ((1 : Nat) : Int) ≤ (most : Int) by omega)] at X5
              go_wp2_with fail
              go_roundg (meas L (.bad 4 : Res Nat))
              case measure => simp only [meas]; omega
              case rel => exact ⟨_, out', F2, .bad 4, rfl, X5.out, K5.out, (fun a' q' e => by cases e), hr1⟩
          · rw [symK_long _ _ _ _ _ h256 hlt] at hr1
            have g256 : ¬ (c : Int) < 256 := by omega
            have hlb := lbits_le c
            have HLB := hid (fun W => Sg.refLongBits (c : Int) (lbits c) W (lbits_is c) (by omega) (by omega))
            obtain ⟨nb, hnb⟩ : ∃ nb : Nat, max (lbits c) 0 = (nb : Int) := ⟨(max (lbits c) 0).toNat, by omega⟩
            have hnb16 : nb ≤ 16 := by omega
            obtain ⟨r2, h2⟩ : ∃ r2, r2 = must (decide (0 ≤ lbits c)) (.ok c q1 : Res Nat) := ⟨_, rfl⟩
            have HM2 := hid (HMU.out (decide (0 ≤ lbits c)) t' (.ok c q1))
            rw [← h2] at HM2
            obtain ⟨r3, h3⟩ : ∃ r3, r3 = on X L r2 (take nb) := ⟨_, rfl⟩
            have HT3 := hid (HTK.out nb hnb16 t' r2)
            rw [← h3] at HT3
            obtain ⟨m, hm⟩ : ∃ m, m = valOr r3 := ⟨_, rfl⟩
            have hm16 : m < 65536 := by
              have h5 := Nat.pow_le_pow_right (show 0 < 2 by decide) hnb16
              have h6 : valOr r3 < 2 ^ nb := by rw [h3]; exact valOr_take
              omega
            rw [← hm] at HT3
            have HLO := hid (fun W => Sg.refLongOf (c : Int) (m : Int) (lof c m).1 (lof c m).2 W (lof_is c m) (by omega) (by omega) (by omega) (by omega))
            have hlin := lof_in c m
            obtain ⟨r4, h4⟩ : ∃ r4, r4 = must (lof c m).2 r3 := ⟨_, rfl⟩
            have HM4 := hid (HMU.out (lof c m).2 t' r3)
            rw [← h4] at HM4
            have hr4 : rr = on X L r4 (restL ca cb most F2 out' (lof c m).1.toNat) := by
              have e := on_signed X L (.ok c q1) r2 r3 r4 (lbits c) (lof c) nb (restL ca cb most F2 out') hnb h2 h3 (by rw [← hm]; exact h4)
              rw [← hm] at e
              exact (show rr = on X L (.ok c q1 : Res Nat) (bind (signedP (lbits c) (lof c)) (restL ca cb most F2 out')) from hr1).trans e
            have hq4 : ∀ a' q', r4 = .ok a' q' → q1 ≤ q' ∧ (lof c m).2 = true := by
              intro a' q' e
              rw [h4] at e
              obtain ⟨e1, e2⟩ := must_of e
              rw [h3] at e1
              obtain ⟨b, q0, e3, e4⟩ := on_take_ok e1
              rw [h2] at e3
              obtain ⟨e5, _⟩ := must_of e3
              cases e5
              exact ⟨by omega, e2⟩
            generalize lof c m = lf at *
            obtain ⟨lg, lk⟩ := lf
            simp only at *
            have HR4 := hid hr4
            rw [← hnb] at HT3
            have HNG := hid (show lbits c < 0 → ∃ e4, r4 = .bad e4 from fun hn => by
              rw [must_ok, if_neg (by simp; omega)] at h2
              subst h2
              rw [on_bad] at h3
              subst h3
              rw [must_bad] at h4
              exact ⟨_, h4⟩)
            clear hr1 hr4 h2 h3 h4 hm hlb hnb
            generalize lbits c = lb at *
            go_wp2_with fail
            refine (HLB.out _).mono ?_
            rintro e w4 ⟨rfl, b4⟩
            have X4 := hid (X3.out.grow b4)
            have K4 := hid (K3.out.trans (Kp.of_below b4 (Nat.le_trans HBB.out (Nat.le_trans HB2.out.size K3.out.size))))
            clear b4
            by_cases hb0 : 0 ≤ lb
            rotate_left
            · obtain ⟨e4, he4⟩ : ∃ e4, r4 = .bad e4 := HNG.out (by omega)
              have hng : lb < 0 := by omega
              have hmx : max lb 0 = 0 := by omega
              rw [hmx] at HT3
              go_wp2_with fail
              refine (HM2.out _ X4.out).mono ?_
              rintro e w5 ⟨⟨rfl, x5⟩, k5⟩
              have X5 := hid x5
              have K5 := hid (K4.out.trans k5)
              clear x5 k5
              go_wp2_with fail
              refine (HT3.out _ X5.out).mono ?_
              rintro e w6 ⟨⟨rfl, x6⟩, k6⟩
              have X6 := hid x6
              have K6 := hid (K5.out.trans k6)
              clear x6 k6
              go_wp2_with fail
              refine (HLO.out _).mono ?_
              rintro e w7 ⟨rfl, b7⟩
              have X7 := hid (X6.out.grow b7)
              have K7 := hid (K6.out.trans (Kp.of_below b7 (Nat.le_trans HBB.out (Nat.le_trans HB2.out.size K6.out.size))))
              clear b7
              go_wp2_with fail
              refine (HM4.out _ X7.out).mono ?_
              rintro e w8 ⟨⟨rfl, x8⟩, k8⟩
              rw [he4] at x8
              have X8 := hid x8
              have K8 := hid (K7.out.trans k8)
              have c8 := x8.c3
              clear x8 k8 c3 HLB HM2 HT3 HLO HM4 X3 X4 X5 X6 X7 K3 K4 K5 K6 K7
              obtain ⟨n1, n2⟩ := X8.out.told.ne rfl
              simp only [whyOf] at c8
              have HFIN := hid (show rr = .bad e4 from by rw [HR4.out, he4]; rfl)
              go_wp2_with fail
              go_returns
              exact ⟨⟨rfl, _, X8.out.as (by rw [HFIN.out]; rfl) (fun b p h => by rw [HFIN.out] at h; cases h) (by rw [HFIN.out]; intro g h; cases h; exact X8.out.told _ rfl), fun o q h => by rw [HFIN.out] at h; cases h⟩, KZ.out.trans K8.out⟩
            have hmx : max lb 0 = lb := by omega
            rw [hmx] at HT3
            rw [decide_eq_true hb0] at HM2
            clear hmx
            go_wp2_with fail
            refine (HM2.out _ X4.out).mono ?_
            rintro e w5 ⟨⟨rfl, x5⟩, k5⟩
            have X5 := hid x5
            have K5 := hid (K4.out.trans k5)
            clear x5 k5
            go_wp2_with fail
            refine (HT3.out _ X5.out).mono ?_
            rintro e w6 ⟨⟨rfl, x6⟩, k6⟩
            have X6 := hid x6
            have K6 := hid (K5.out.trans k6)
            clear x6 k6
            go_wp2_with fail
            refine (HLO.out _).mono ?_
            rintro e w7 ⟨rfl, b7⟩
            have X7 := hid (X6.out.grow b7)
            have K7 := hid (K6.out.trans (Kp.of_below b7 (Nat.le_trans HBB.out (Nat.le_trans HB2.out.size K6.out.size))))
            clear b7
            go_wp2_with fail
            refine (HM4.out _ X7.out).mono ?_
            rintro e w8 ⟨⟨rfl, x8⟩, k8⟩
            have X8 := hid x8
            have K8 := hid (K7.out.trans k8)
            have c8 := x8.c3
            clear x8 k8 c3 HLB HM2 HT3 HLO HM4 X3 X4 X5 X6 X7 K3 K4 K5 K6 K7
            cases r4 with
            | bad e =>
              obtain ⟨n1, n2⟩ := X8.out.told.ne rfl
              simp only [whyOf] at c8
              have HFIN := hid (show rr = .bad e from HR4.out)
              go_wp2_with fail
              go_returns
              exact ⟨⟨rfl, _, X8.out.as (by rw [HFIN.out]; rfl) (fun b p h => by rw [HFIN.out] at h; cases h) (by rw [HFIN.out]; intro g h; cases h; exact X8.out.told _ rfl), fun o q h => by rw [HFIN.out] at h; cases h⟩, KZ.out.trans K8.out⟩
            | ok m4 q4 =>
              obtain ⟨hq14, hlk⟩ := hq4 m4 q4 rfl
              obtain ⟨lg3, lg258⟩ := hlin hlk
              have hq4L : q4 ≤ L := by rw [hL]; exact X8.out.inn _ _ rfl
              simp only [whyOf] at c8
              have HKD8 := hid (HKD.out _ (HLK2.out _ K8.out))
              clear hq4 hlin
              by_cases hk0 : kd2 = 0
              · have hb0 : (((kd2 : Nat) : Int) == 0) = true := by rw [hk0]; rfl
                have HFIN := hid (show rr = .bad 2 from by rw [HR4.out]; unfold restL; rw [HG0.out hk0, on_ok]; exact bind_bad rfl)
                have f8 := X8.out.free 3
                have XW := hid (X8.out.wrong (β := List UInt8) (f := 2) (.inl rfl))
                clear hk0 hk2
                go_wp2_with fail
                refine HKD8.out.mono ?_
                rintro e w9 ⟨rfl, rfl⟩
                go_wp2_with fail
                go_returns
                exact ⟨⟨rfl, _, by rw [HFIN.out]; exact XW.out, fun o q h => by rw [HFIN.out] at h; cases h⟩, KZ.out.trans (K8.out.trans (X8.out.kpS hS 3 _))⟩
              · have hb0 : (((kd2 : Nat) : Int) == 0) = false := beq_eq_false_iff_ne.2 (by omega)
                have HN5 := hid (HNX2.out Q2 c2 t' (.ok m4 q4))
                have HLC5 := hid (HLC2.out _ _ _ K8.out X8.out (by omega))
                obtain ⟨r5, h5⟩ : ∃ r5, r5 = on X L (.ok m4 q4 : Res Nat) (sym f2 l2.length) := ⟨_, rfl⟩
                rw [← h5] at HN5
                have hr5 : rr = on X L r5 (restB ca cb most F2 out' lg.toNat (valOr r5)) := by
                  rw [HR4.out]
                  unfold restL
                  rw [HG2.out (by omega), on_bind, ← h5]
                have hpos5 : ∀ a' q', r5 = .ok a' q' → q4 < q' ∧ a' < l2.length := by
                  intro a' q' e
                  rw [h5, on_ok] at e
                  have := read_of (c := ⟨f2, l2.length, true⟩) (by unfold Cds.read; rw [if_pos rfl]; exact e)
                  exact ⟨this.2.1, this.1⟩
                obtain ⟨d, hd⟩ : ∃ d, d = valOr r5 := ⟨_, rfl⟩
                have hd300 : d < 300 := by
                  rw [hd]
                  cases hr5' : r5 with
                  | bad e => exact Nat.zero_lt_succ _
                  | ok a' q' => have := (hpos5 a' q' hr5').2; have := HN2.out; simp only [valOr]; omega
                rw [← hd] at HN5 hr5
                clear h5 hd
                have hbb := bbits_le d
                have HBB5 := hid (fun W => Sg.refBackBits (d : Int) W (by omega) (by omega))
                obtain ⟨bb, hbbe⟩ : ∃ bb, bb = Go.Proofs.Sym.backBits (d : Int) := ⟨_, rfl⟩
                obtain ⟨nb5, hnb5⟩ : ∃ nb : Nat, max bb 0 = (nb : Int) := ⟨(max bb 0).toNat, by omega⟩
                rw [← hbbe] at hbb HBB5
                have hnb516 : nb5 ≤ 16 := by omega
                obtain ⟨r6, h6⟩ : ∃ r6, r6 = must (decide (0 ≤ bb)) r5 := ⟨_, rfl⟩
                have HM6 := hid (HMU.out (decide (0 ≤ bb)) t' r5)
                rw [← h6] at HM6
                obtain ⟨r7, h7⟩ : ∃ r7, r7 = on X L r6 (take nb5) := ⟨_, rfl⟩
                have HT7 := hid (HTK.out nb5 hnb516 t' r6)
                rw [← h7] at HT7
                obtain ⟨m7, hm7⟩ : ∃ m, m = valOr r7 := ⟨_, rfl⟩
                have hm716 : m7 < 65536 := by
                  have h5 := Nat.pow_le_pow_right (show 0 < 2 by decide) hnb516
                  have h6 : valOr r7 < 2 ^ nb5 := by rw [h7]; exact valOr_take
                  omega
                rw [← hm7] at HT7
                have HBO := hid (fun W => Sg.refBackOf (d : Int) (m7 : Int) (bof d m7).1 (bof d m7).2 W (bof_is d m7) (by omega) (by omega) (by omega) (by omega))
                have hbin := bof_in d m7
                obtain ⟨r8, h8⟩ : ∃ r8, r8 = must ((bof d m7).2 && decide ((bof d m7).1.toNat ≤ out'.length)) r7 := ⟨_, rfl⟩
                have hr9 : rr = on X L r8 (if out'.length + lg.toNat ≤ most then symsF ca cb most F2 (copyT out' (bof d m7).1.toNat lg.toNat) else fail 4) := by
                  have e := on_signed X L r5 r6 r7 (must (bof d m7).2 r7) bb (bof d) nb5 (restC ca cb most F2 out' lg.toNat) hnb5 h6 h7 (by rw [← hm7])
                  rw [← hm7] at e
                  have e0 : rr = on X L r5 (bind (signedP bb (bof d)) (restC ca cb most F2 out' lg.toNat)) := by rw [hr5, hbbe]; rfl
                  have e2 := on_repeat X L (must (bof d m7).2 r7) r8 most out' lg.toNat (bof d m7).1.toNat (symsF ca cb most F2) (by rw [h8, must_two])
                  exact e0.trans (e.trans e2)
                have hq8 : ∀ a' q', r8 = .ok a' q' → q4 < q' ∧ (bof d m7).2 = true ∧ (bof d m7).1.toNat ≤ out'.length := by
                  intro a' q' e
                  rw [h8] at e
                  obtain ⟨e1, e2⟩ := must_of e
                  rw [h7] at e1
                  obtain ⟨b, q0, e3, e4⟩ := on_take_ok e1
                  rw [h6] at e3
                  obtain ⟨e5, _⟩ := must_of e3
                  have := (hpos5 _ _ e5).1
                  rw [Bool.and_eq_true] at e2
                  exact ⟨by omega, e2.1, of_decide_eq_true e2.2⟩
                generalize bof d m7 = bf at *
                obtain ⟨bi, bk⟩ := bf
                simp only at *
                have HR9 := hid hr9
                have HQ8 := hid hq8
                have H8 := hid h8
                have HBIN := hid hbin
                have HM8 := hid (fun ok => HMU.out ok t' r7)
                have HNG5 := hid (show bb < 0 → ∃ e8, r8 = .bad e8 from fun hn => by
                  have h60 : ∃ e, r6 = .bad e := by
                    rw [h6, decide_eq_false (by omega)]
                    cases r5 with
                    | bad e => exact ⟨e, rfl⟩
                    | ok a q => exact ⟨2, rfl⟩
                  obtain ⟨e, he⟩ := h60
                  rw [he, on_bad] at h7
                  rw [h7, must_bad] at h8
                  exact ⟨e, h8⟩)
                rw [← hnb5] at HT7
                have HKD2 := hid hk2
                clear hnb5 hr5 hr9 hq8 h6 h7 h8 hm7 hbb hbbe hpos5 hbin hk0 hk2 HR4
                go_wp2_with fail
                refine HKD8.out.mono ?_
                rintro e w9 ⟨rfl, rfl⟩
                go_wp2_with fail
                refine (HN5.out _ X8.out HLC5.out).mono ?_
                rintro e w9 ⟨⟨rfl, x9⟩, k9⟩
                have X9 := hid x9
                have K9 := hid (K8.out.trans k9)
                clear x9 k9 c8
                go_wp2_with fail
                refine (HBB5.out _).mono ?_
                rintro e wa ⟨rfl, rfl⟩
                go_wp2_with fail
                refine (HM6.out _ X9.out).mono ?_
                rintro e wb ⟨⟨rfl, xb⟩, kb⟩
                have XB := hid xb
                have KB := hid (K9.out.trans kb)
                clear xb kb
                by_cases hb5 : 0 ≤ bb
                rotate_left
                · have hmx5 : max bb 0 = 0 := by omega
                  rw [hmx5] at HT7
                  clear hmx5
                  go_wp2_with fail
                  refine (HT7.out _ XB.out).mono ?_
                  rintro e wc ⟨⟨rfl, xc⟩, kc⟩
                  have XC := hid xc
                  have KC := hid (KB.out.trans kc)
                  clear xc kc
                  go_wp2_with fail
                  refine (HBO.out _).mono ?_
                  rintro e wd ⟨rfl, bd⟩
                  have XD := hid (XC.out.grow bd)
                  have KD := hid (KC.out.trans (Kp.of_below bd (Nat.le_trans HBB.out (Nat.le_trans HB2.out.size KC.out.size))))
                  clear bd X8 X9 XB XC K8 K9 KB KC HKD8 HN5 HLC5 HBB5 HM6 HT7 HBO HNX2 HLC2 HTK HKD HLK2 HG0 HG1 HG2
                  have cd1 := XD.out.c1
                  cases bk with
                  | false =>
                    have HM8f := hid (HM8.out false)
                    have h8f : r8 = must false r7 := H8.out
                    rw [← h8f] at HM8f
                    obtain ⟨e8, he8⟩ : ∃ e8, r8 = .bad e8 := by
                      cases hr8 : r8 with
                      | bad e => exact ⟨e, rfl⟩
                      | ok a' q' => have := (HQ8.out a' q' hr8).2.1; cases this
                    clear h8f
                    go_wp2_with fail
                    refine (HM8f.out _ XD.out).mono ?_
                    rintro e we ⟨⟨rfl, xe⟩, ke⟩
                    rw [he8] at xe
                    have XE := hid xe
                    have KE := hid (KD.out.trans ke)
                    have HF8 := hid (show rr = .bad e8 from by rw [HR9.out, he8]; rfl)
                    clear xe ke cd1
                    obtain ⟨n1, n2⟩ := XE.out.told.ne rfl
                    have ce3 := XE.out.c3
                    simp only [whyOf] at ce3
                    have HG := hid (fun nq => XE.out.grow (w' := we.drewN nq) ⟨rfl, rfl, rfl, Nat.le_refl _, fun _ _ => rfl⟩)
                    have HK := hid (fun nq => KE.out.drewN nq)
                    go_upto_region 18 with fail
                    go_quiet (fail)
                    have XF := hid (HG.out nq)
                    have KF := hid (HK.out nq)
                    generalize we.drewN nq = W at XF KF ⊢
                    clear ce3
                    go_wp2_with fail
                    go_loopg [15] 0 (fun gk i wr2 => i = .int .i64 0 ∧ Xs wr2 S R s t' (most : Int) (.bad e8 : Res Nat) ∧ Kp TR B w2 wr2)
                    case atStart => exact ⟨rfl, XF.out, KF.out⟩
                    case round =>
                      obtain ⟨rfl, hx, hkp⟩ := hrel
                      have XG := hid hx
                      have KG := hid hkp
                      have cg3 := XG.out.c3
                      simp only [whyOf] at cg3
                      have hl0 : (0 : Int) < lg := by omega
                      clear hx hkp XF KF
                      go_wp2_with fail
                      go_roundg (meas L (.bad e8 : Res Nat))
                      case measure => simp only [meas]; omega
                      case rel => exact ⟨t', out', F2, .bad e8, rfl, XG.out, KG.out, (fun a' q' e => by cases e), HF8.out⟩
                  | true =>
                    obtain ⟨hb1, hb2⟩ := HBIN.out rfl
                    have HD8 := hid (show decide (bi ≤ (out'.length : Int)) = decide (bi.toNat ≤ out'.length) from decide_eq_decide.2 ⟨fun h => by omega, fun h => by omega⟩)
                    have HM8t := hid (HM8.out (decide (bi.toNat ≤ out'.length)))
                    have h8t : r8 = must (decide (bi.toNat ≤ out'.length)) r7 := H8.out
                    rw [← h8t] at HM8t
                    clear h8t
                    go_wp2_with fail
                    rw [HD8.out]
                    refine (HM8t.out _ XD.out).mono ?_
                    rintro e we ⟨⟨rfl, xe⟩, ke⟩
                    have XE := hid xe
                    have KE := hid (KD.out.trans ke)
                    clear xe ke cd1
                    cases r8 with
                    | bad e8 =>
                      have HF8 := hid (show rr = .bad e8 from HR9.out)
                      obtain ⟨n1, n2⟩ := XE.out.told.ne rfl
                      have ce3 := XE.out.c3
                      simp only [whyOf] at ce3
                      have HG := hid (fun nq => XE.out.grow (w' := we.drewN nq) ⟨rfl, rfl, rfl, Nat.le_refl _, fun _ _ => rfl⟩)
                      have HK := hid (fun nq => KE.out.drewN nq)
                      go_upto_region 18 with fail
                      go_quiet (fail)
                      have XF := hid (HG.out nq)
                      have KF := hid (HK.out nq)
                      generalize we.drewN nq = W at XF KF ⊢
                      clear ce3
                      go_wp2_with fail
                      go_loopg [15] 0 (fun gk i wr2 => i = .int .i64 0 ∧ Xs wr2 S R s t' (most : Int) (.bad e8 : Res Nat) ∧ Kp TR B w2 wr2)
                      case atStart => exact ⟨rfl, XF.out, KF.out⟩
                      case round =>
                        obtain ⟨rfl, hx, hkp⟩ := hrel
                        have XG := hid hx
                        have KG := hid hkp
                        have cg3 := XG.out.c3
                        simp only [whyOf] at cg3
                        have hl0 : (0 : Int) < lg := by omega
                        clear hx hkp XF KF
                        go_wp2_with fail
                        go_roundg (meas L (.bad e8 : Res Nat))
                        case measure => simp only [meas]; omega
                        case rel => exact ⟨t', out', F2, .bad e8, rfl, XG.out, KG.out, (fun a' q' e => by cases e), HF8.out⟩
                    | ok m8 q8 =>
                      obtain ⟨e8, he8⟩ := HNG5.out (by omega)
                      cases he8
                have hmx5 : max bb 0 = bb := by omega
                rw [hmx5] at HT7
                clear hmx5
                go_wp2_with fail
                refine (HT7.out _ XB.out).mono ?_
                rintro e wc ⟨⟨rfl, xc⟩, kc⟩
                have XC := hid xc
                have KC := hid (KB.out.trans kc)
                clear xc kc
                go_wp2_with fail
                refine (HBO.out _).mono ?_
                rintro e wd ⟨rfl, bd⟩
                have XD := hid (XC.out.grow bd)
                have KD := hid (KC.out.trans (Kp.of_below bd (Nat.le_trans HBB.out (Nat.le_trans HB2.out.size KC.out.size))))
                clear bd X8 X9 XB XC K8 K9 KB KC HKD8 HN5 HLC5 HBB5 HM6 HT7 HBO HNX2 HLC2 HTK HKD HLK2 HG0 HG1 HG2
                have cd1 := XD.out.c1
                cases bk with
                | false =>
                  have HM8f := hid (HM8.out false)
                  have h8f : r8 = must false r7 := H8.out
                  rw [← h8f] at HM8f
                  obtain ⟨e8, he8⟩ : ∃ e8, r8 = .bad e8 := by
                    cases hr8 : r8 with
                    | bad e => exact ⟨e, rfl⟩
                    | ok a' q' => have := (HQ8.out a' q' hr8).2.1; cases this
                  clear h8f
                  go_wp2_with fail
                  refine (HM8f.out _ XD.out).mono ?_
                  rintro e we ⟨⟨rfl, xe⟩, ke⟩
                  rw [he8] at xe
                  have XE := hid xe
                  have KE := hid (KD.out.trans ke)
                  have HF8 := hid (show rr = .bad e8 from by rw [HR9.out, he8]; rfl)
                  clear xe ke cd1
                  obtain ⟨n1, n2⟩ := XE.out.told.ne rfl
                  have ce3 := XE.out.c3
                  simp only [whyOf] at ce3
                  have HG := hid (fun nq => XE.out.grow (w' := we.drewN nq) ⟨rfl, rfl, rfl, Nat.le_refl _, fun _ _ => rfl⟩)
                  have HK := hid (fun nq => KE.out.drewN nq)
                  go_upto_region 18 with fail
                  go_quiet (fail)
                  have XF := hid (HG.out nq)
                  have KF := hid (HK.out nq)
                  generalize we.drewN nq = W at XF KF ⊢
                  clear ce3
                  go_wp2_with fail
                  go_loopg [15] 0 (fun gk i wr2 => i = .int .i64 0 ∧ Xs wr2 S R s t' (most : Int) (.bad e8 : Res Nat) ∧ Kp TR B w2 wr2)
                  case atStart => exact ⟨rfl, XF.out, KF.out⟩
                  case round =>
                    obtain ⟨rfl, hx, hkp⟩ := hrel
                    have XG := hid hx
                    have KG := hid hkp
                    have cg3 := XG.out.c3
                    simp only [whyOf] at cg3
                    have hl0 : (0 : Int) < lg := by omega
                    clear hx hkp XF KF
                    go_wp2_with fail
                    go_roundg (meas L (.bad e8 : Res Nat))
                    case measure => simp only [meas]; omega
                    case rel => exact ⟨t', out', F2, .bad e8, rfl, XG.out, KG.out, (fun a' q' e => by cases e), HF8.out⟩
                | true =>
                  obtain ⟨hb1, hb2⟩ := HBIN.out rfl
                  have HD8 := hid (show decide (bi ≤ (out'.length : Int)) = decide (bi.toNat ≤ out'.length) from decide_eq_decide.2 ⟨fun h => by omega, fun h => by omega⟩)
                  have HM8t := hid (HM8.out (decide (bi.toNat ≤ out'.length)))
                  have h8t : r8 = must (decide (bi.toNat ≤ out'.length)) r7 := H8.out
                  rw [← h8t] at HM8t
                  clear h8t
                  go_wp2_with fail
                  rw [HD8.out]
                  refine (HM8t.out _ XD.out).mono ?_
                  rintro e we ⟨⟨rfl, xe⟩, ke⟩
                  have XE := hid xe
                  have KE := hid (KD.out.trans ke)
                  clear xe ke cd1
                  cases r8 with
                  | bad e8 =>
                    have HF8 := hid (show rr = .bad e8 from HR9.out)
                    obtain ⟨n1, n2⟩ := XE.out.told.ne rfl
                    have ce3 := XE.out.c3
                    simp only [whyOf] at ce3
                    have HG := hid (fun nq => XE.out.grow (w' := we.drewN nq) ⟨rfl, rfl, rfl, Nat.le_refl _, fun _ _ => rfl⟩)
                    have HK := hid (fun nq => KE.out.drewN nq)
                    go_upto_region 18 with fail
                    go_quiet (fail)
                    have XF := hid (HG.out nq)
                    have KF := hid (HK.out nq)
                    generalize we.drewN nq = W at XF KF ⊢
                    clear ce3
                    go_wp2_with fail
                    go_loopg [15] 0 (fun gk i wr2 => i = .int .i64 0 ∧ Xs wr2 S R s t' (most : Int) (.bad e8 : Res Nat) ∧ Kp TR B w2 wr2)
                    case atStart => exact ⟨rfl, XF.out, KF.out⟩
                    case round =>
                      obtain ⟨rfl, hx, hkp⟩ := hrel
                      have XG := hid hx
                      have KG := hid hkp
                      have cg3 := XG.out.c3
                      simp only [whyOf] at cg3
                      have hl0 : (0 : Int) < lg := by omega
                      clear hx hkp XF KF
                      go_wp2_with fail
                      go_roundg (meas L (.bad e8 : Res Nat))
                      case measure => simp only [meas]; omega
                      case rel => exact ⟨t', out', F2, .bad e8, rfl, XG.out, KG.out, (fun a' q' e => by cases e), HF8.out⟩
                  | ok m8 q8 =>
                    obtain ⟨hq48, _, hback⟩ := HQ8.out m8 q8 rfl
                    have hq8L : q8 ≤ L := by rw [hL]; exact XE.out.inn _ _ rfl
                    obtain ⟨back, hbk⟩ : ∃ back : Nat, bi = (back : Int) := ⟨bi.toNat, by omega⟩
                    subst hbk
                    obtain ⟨long, hlg⟩ : ∃ long : Nat, lg = (long : Int) := ⟨lg.toNat, by omega⟩
                    subst hlg
                    rw [Int.toNat_natCast] at hback HR9
                    rw [Int.toNat_natCast] at HR9
                    have ce1 := XE.out.c1
                    have ce2 := XE.out.c2
                    have ce3 := XE.out.c3
                    simp only [whyOf] at ce3
                    have HG := hid (fun nq => XE.out.grow (w' := we.drewN nq) ⟨rfl, rfl, rfl, Nat.le_refl _, fun _ _ => rfl⟩)
                    have HK := hid (fun nq => KE.out.drewN nq)
                    have hmm := HMM.out
                    have ew : IntKind.i64.wrap ((out'.length : Int) + (long : Int)) = (out'.length : Int) + (long : Int) := IntWalk.i64_in _ (by omega)
                    by_cases hroom : out'.length + long ≤ most
                    · have HF9 := hid (show rr = on X L (.ok m8 q8 : Res Nat) (symsF ca cb most F2 (copyT out' back long)) from by rw [HR9.out, if_pos hroom])
                      have gr : decide ((most : Int) < (out'.length : Int) + (long : Int)) = false := by rw [decide_eq_false_iff_not]; omega
                      go_upto_region 18 with fail
                      go_quiet (fail)
                      have XF := hid (HG.out nq)
                      have KF := hid (HK.out nq)
                      generalize we.drewN nq = W at XF KF ⊢
                      clear ce1 ce2 ce3 ew gr
                      go_wp2_with fail
                      go_loopg [15] long (fun gk i wr2 => ∃ (k : Nat) (tk : ByteArray), gk = long - k ∧ k ≤ long ∧ i = .int .i64 (k : Int) ∧ Xs wr2 S R s tk (most : Int) (.ok m8 q8 : Res Nat) ∧ Str tk (copyT out' back k) ∧ Kp TR B w2 wr2)
                      case atStart => exact ⟨0, t', rfl, Nat.zero_le _, rfl, XF.out, HST.out, KF.out⟩
                      case round =>
                        obtain ⟨k, tk, rfl, hk, rfl, hx, hst, hkp⟩ := hrel
                        have XG := hid hx
                        have KG := hid hkp
                        have HSK := hid hst
                        have hsz := hst.size
                        rw [copyT_len] at hsz
                        have HSZK := hid hsz
                        have cg1 := XG.out.c1
                        have cg3 := XG.out.c3
                        have fg1 := XG.out.free 1
                        simp only [whyOf] at cg3
                        clear hx hst hkp XF KF
                        by_cases hkl : k < long
                        · have hki : (k : Int) < (long : Int) := by omega
                          obtain ⟨j, hj⟩ : ∃ j : Nat, j + back = tk.size := ⟨tk.size - back, by omega⟩
                          have e1 : IntKind.i64.wrap ((tk.size : Int) - (back : Int)) = (j : Int) := by rw [IntWalk.i64_in _ (by omega)]; omega
                          have e2 : IntKind.i64.wrap ((j : Int) + 1) = ((j + 1 : Nat) : Int) := by rw [IntWalk.i64_in _ (by omega)]; omega
                          have HSN := hid (show Str (tk ++ tk.extract j (j + 1)) (copyT out' back (k + 1)) from by
                            have h1 := str_snoc HSK.out j (by rw [copyT_len]; omega)
                            unfold copyT
                            rw [show (copyT out' back k).length - back = j by rw [copyT_len]; omega]
                            exact h1)
                          have g1 : (j : Int) + 1 ≤ (tk.size : Int) := by omega
                          have g2 : j + 1 ≤ tk.size := by omega
                          have g3 : ¬ 9223372036854775807 < tk.size + 1 := by omega
                          have g4 : (0 : Int) ≤ (j : Int) + 1 := by omega
                          have g5 : (j : Int) ≤ (j : Int) + 1 := by omega
                          have hex : (tk.extract j (j + 1)).size = 1 := by rw [ByteArray.size_extract]; omega
                          clear hsz
                          go_upto_region 23 with fail
                          go_still_tail 27, (by kernel_rfl)
                          change wpList _ _ _ _ _ wr.drew
                          have XD2 := hid (XG.out.grow (w' := wr.drew) ⟨rfl, rfl, rfl, Nat.le_refl _, fun _ _ => rfl⟩)
                          have KD2 := hid (KG.out.trans (show Kp TR B wr wr.drew from ⟨⟨rfl, rfl, rfl, Nat.le_refl _, fun _ _ => rfl⟩, fun _ _ _ _ h _ => h, fun _ cs _ h ho => ⟨cs, h, rfl, ho⟩⟩))
                          generalize wr.drew = WD at *
                          clear cg1 cg3 fg1
                          have fg1 := XD2.out.free 1
                          have cg1 := XD2.out.c1
                          go_wp2_with fail
                          go_roundg (long - (k + 1))
                          case measure => omega
                          case rel => exact ⟨k + 1, _, rfl, by omega, by go_num, XD2.out.setT _, HSN.out, KD2.out.trans (XD2.out.kpS hS 1 _)⟩
                        · obtain rfl : k = long := by omega
                          have hki : ¬ (k : Int) < (k : Int) := by omega
                          go_wp2_with fail
                          go_roundg (meas L (.ok m8 q8 : Res Nat))
                          case measure => simp only [meas]; omega
                          case rel => exact ⟨tk, copyT out' back k, F2, .ok m8 q8, rfl, XG.out, KG.out, (fun a' q' e => by cases e; exact ⟨HSK.out, by rw [copyT_len]; exact hroom, by omega, hk1, HKD2.out⟩), HF9.out⟩
                    · have HF8 := hid (show rr = .bad 4 from by rw [HR9.out, if_neg hroom]; rfl)
                      have gr : decide ((most : Int) < (out'.length : Int) + (long : Int)) = true := by rw [decide_eq_true_iff]; omega
                      go_upto_region 18 with fail
                      go_quiet (fail)
                      have XF := hid (HG.out nq)
                      have KF := hid (HK.out nq)
                      generalize we.drewN nq = W at XF KF ⊢
                      clear ce1 ce2 ce3 ew gr
                      have ce3 := XF.out.c3
                      have fe3 := XF.out.free 3
                      simp only [whyOf] at ce3
                      have XW := hid (XF.out.wrong (β := Nat) (f := 4) (.inr (.inr rfl)))
                      have KW := hid (KF.out.trans (XF.out.kpS hS 3 (.int .i64 4)))
                      go_wp2_with fail
                      go_loopg [15] 0 (fun gk i wr2 => i = .int .i64 0 ∧ Xs wr2 S R s t' (most : Int) (.bad 4 : Res Nat) ∧ Kp TR B w2 wr2)
                      case atStart => exact ⟨rfl, XW.out, KW.out⟩
                      case round =>
                        obtain ⟨rfl, hx, hkp⟩ := hrel
                        have XG := hid hx
                        have KG := hid hkp
                        have cg3 := XG.out.c3
                        simp only [whyOf] at cg3
                        have hl0 : (0 : Int) < (long : Int) := by omega
                        clear hx hkp ce3 fe3 XW KW XF KF
                        go_wp2_with fail
                        go_roundg (meas L (.bad 4 : Res Nat))
                        case measure => simp only [meas]; omega
                        case rel => exact ⟨t', out', F2, .bad 4, rfl, XG.out, KG.out, (fun a' q' e => by cases e), HF8.out⟩
end Inf
end Go.Proofs.Ytlfohihmkfphhaa

