/- INFLATE: what the document holds as it reads; its bits and symbols, whether something is wrong already or not. -/
import Derived.Test.YtlfohihmkfphhaaJnfT
import Derived.BigQuiet
namespace Go.Proofs.Ytlfohihmkfphhaa
set_option linter.unusedVariables false
open Go.RowKit
open Go.Proofs.Huf
attribute [local go_sem ↓] Go.wp_at_zero Go.wp_at_succ
namespace Inf
open Huff
def Str (t : ByteArray) (l : List UInt8) : Prop := t = ⟨l.toArray⟩
theorem Str.size {t : ByteArray} {l : List UInt8} (h : Str t l) : t.size = l.length := by unfold Str at h; subst h; simp [ByteArray.size]
def whyOf {α : Type} : Res α → Nat
  | .ok _ _ => 0
  | .bad f => f
/-- What is handed back: what was read, or 0. -/
def valOr : Res Nat → Nat
  | .ok a _ => a
  | .bad _ => 0
/-- On from where one stands, if nothing is wrong. -/
def on {α β : Type} (X L : Nat) (r : Res α) (f : Rdr β) : Res β := match r with
  | .ok _ p => f X L p
  | .bad e => .bad e
def must (b : Bool) {α : Type} (r : Res α) : Res α := match r with
  | .ok a p => if b = true then .ok a p else .bad 2
  | .bad e => .bad e
theorem on_ok {α β : Type} (X L : Nat) (a : α) (p : Nat) (f : Rdr β) : on X L (.ok a p) f = f X L p := rfl
theorem on_bad {α β : Type} (X L e : Nat) (f : Rdr β) : on X L (.bad e : Res α) f = .bad e := rfl
theorem must_ok {α : Type} (b : Bool) (a : α) (p : Nat) : must b (.ok a p) = if b = true then .ok a p else .bad 2 := rfl
theorem must_bad {α : Type} (b : Bool) (e : Nat) : must b (.bad e : Res α) = .bad e := rfl
/-- What may be wrong. -/
def Told {α : Type} (r : Res α) : Prop := ∀ f, r = .bad f → f = 2 ∨ f = 3 ∨ f = 4
def In {α : Type} (L : Nat) (r : Res α) : Prop := ∀ a p, r = .ok a p → p ≤ L
/-- The document's state. -/
structure Xs (w : World) (S R : Nat) (s : ByteArray) (t : ByteArray) (most : Int) {α : Type} (r : Res α) : Prop where
  st : w.heap[S]? = some (.cells #[.pointer (some ⟨R, 0, none⟩), .string t, .int .i64 most, .int .i64 (whyOf r : Int)] 46 (0, 0))
  rd : ∀ a p, r = .ok a p → Rf w R s p false
  blk : ∃ cs, w.heap[R]? = some (.cells cs 44 (0, 0))
  told : Told r
  inn : In (8 * s.size) r
section
variable {α β : Type} {w w' : World} {S R : Nat} {s : ByteArray} {p : Nat} {t : ByteArray} {most : Int} {r : Res α} {r2 : Res β}
theorem Xs.c0 (h : Xs w S R s t most r) : w.cell? ⟨S, 0, none⟩ = some (.pointer (some ⟨R, 0, none⟩)) := by rw [cell_of_row w S 0 _ 46 (0, 0) h.st]; rfl
theorem Xs.c1 (h : Xs w S R s t most r) : w.cell? ⟨S, 1, none⟩ = some (.string t) := by rw [cell_of_row w S 1 _ 46 (0, 0) h.st]; rfl
theorem Xs.c2 (h : Xs w S R s t most r) : w.cell? ⟨S, 2, none⟩ = some (.int .i64 most) := by rw [cell_of_row w S 2 _ 46 (0, 0) h.st]; rfl
theorem Xs.c3 (h : Xs w S R s t most r) : w.cell? ⟨S, 3, none⟩ = some (.int .i64 (whyOf r : Int)) := by rw [cell_of_row w S 3 _ 46 (0, 0) h.st]; rfl
theorem Xs.free (h : Xs w S R s t most r) (i : Nat) : w.frozen? ⟨S, i, none⟩ = false := frozen_of_row w S i _ 46 h.st
theorem Xs.lt (h : Xs w S R s t most r) : S < w.heap.size := (Array.getElem?_eq_some_iff.1 h.st).1
theorem Xs.ne (h : Xs w S R s t most r) : S ≠ R := by
  rintro rfl
  obtain ⟨cs, hb⟩ := h.blk
  rw [h.st] at hb
  simp at hb
theorem Xs.grow (h : Xs w S R s t most r) (b : Below w.heap.size w w') : Xs w' S R s t most r := by
  obtain ⟨cs, hb⟩ := h.blk
  have hR := (b.block R (Array.getElem?_eq_some_iff.1 hb).1)
  exact ⟨(b.block S h.lt).trans h.st, fun a p e => hR.trans (h.rd a p e), ⟨cs, hR.trans hb⟩, h.told, h.inn⟩
theorem Xs.as (h : Xs w S R s t most r) (hw : whyOf r2 = whyOf r) (hp : ∀ b p, r2 = .ok b p → ∃ a, r = .ok a p) (ht : Told r2) : Xs w S R s t most r2 :=
  ⟨by rw [hw]; exact h.st, fun b p e => by obtain ⟨a, ha⟩ := hp b p e; exact h.rd a p ha, h.blk, ht, fun b p e => by obtain ⟨a, ha⟩ := hp b p e; exact h.inn a p ha⟩
theorem Xs.kpR {B : Nat} (h : Xs w S R s t most r) (hB : B ≤ R) (o : Only R w w') : Kp TR B w w' := by
  obtain ⟨cs, hb⟩ := h.blk
  exact .of_only o hb (by decide) hB
theorem Xs.kpS {B : Nat} (h : Xs w S R s t most r) (hB : B ≤ S) (i : Nat) (x : Value) : Kp TR B w (w.setCell ⟨S, i, none⟩ x) := .of_only (Only.setCell S w i x) h.st (by decide) hB
/-- Something is wrong now. -/
theorem Xs.wrong {f : Nat} (h : Xs w S R s t most r) (hf : f = 2 ∨ f = 3 ∨ f = 4) : Xs (w.setCell ⟨S, 3, none⟩ (.int .i64 (f : Int))) S R s t most (.bad f : Res β) := by
  obtain ⟨cs, hb⟩ := h.blk
  refine ⟨heap_setCell_same w S 3 _ 46 _ h.st, (fun a p e => by cases e), ⟨cs, (heap_setCell_other w ⟨S, 3, none⟩ R _ (fun e => h.ne e.symm)).trans hb⟩, fun g e => ?_, (fun a p e => by cases e)⟩
  cases e
  exact hf
/-- Other bytes. -/
theorem Xs.setT (h : Xs w S R s t most r) (t' : ByteArray) : Xs (w.setCell ⟨S, 1, none⟩ (.string t')) S R s t' most r := by
  obtain ⟨cs, hb⟩ := h.blk
  have hR : (w.setCell ⟨S, 1, none⟩ (.string t')).heap[R]? = w.heap[R]? := heap_setCell_other w ⟨S, 1, none⟩ R _ (fun e => h.ne e.symm)
  exact ⟨heap_setCell_same w S 1 _ 46 _ h.st, fun a p e => hR.trans (h.rd a p e), ⟨cs, hR.trans hb⟩, h.told, h.inn⟩
end
theorem Told.ne {α : Type} {r : Res α} (h : Told r) {f : Nat} (e : r = .bad f) : (((f : Nat) : Int) == 0) = false ∧ (((f : Nat) : Int) != 0) = true := by
  rcases h f e with rfl | rfl | rfl <;> exact ⟨rfl, rfl⟩
theorem told_take {n X L p : Nat} : Told (take n X L p) := by
  intro f e
  unfold take at e
  split at e
  · cases e
  · cases e; exact .inr (.inl rfl)
theorem in_take {n X L p : Nat} : In L (take n X L p) := by
  intro a q e
  unfold take at e
  split at e
  · cases e; assumption
  · cases e
theorem told_sym {g : Nat → Nat} {N X L p : Nat} : Told (sym g N X L p) := by
  intro f e
  unfold sym symR at e
  split at e
  · cases e; exact .inr (.inl rfl)
  · split at e
    · cases e
    · cases e; exact .inl rfl
theorem dec_v0 (g : Nat → Nat) (N X L : Nat) : ∀ f p n v, (decF g N X L f p n v).ok = false → (decF g N X L f p n v).v = 0
  | 0, _, _, _, _ => rfl
  | f + 1, p, n, v, h => by
    by_cases c : p < L
    · cases hq : findT g N N (n + 1) (2 * v + bitN X p) with
      | some i => rw [dec_hit c hq] at h; cases h
      | none => rw [dec_on c hq] at h ⊢; exact dec_v0 g N X L f _ _ _ h
    · rw [dec_miss c]
theorem dec_lt (g : Nat → Nat) (N X L : Nat) : ∀ f p n v, (decF g N X L f p n v).ok = true → (decF g N X L f p n v).v < N
  | 0, _, _, _, h => by simp [decF] at h
  | f + 1, p, n, v, h => by
    by_cases c : p < L
    · cases hq : findT g N N (n + 1) (2 * v + bitN X p) with
      | some i => rw [dec_hit c hq]; exact (find_some hq).1
      | none => rw [dec_on c hq] at h ⊢; exact dec_lt g N X L f _ _ _ h
    · rw [dec_miss c] at h; cases h
theorem sym_lt {g : Nat → Nat} {N X L p v q : Nat} (h : sym g N X L p = .ok v q) : v < N := by
  obtain ⟨_, h2, rfl, _⟩ := sym_of h
  exact dec_lt _ _ _ _ _ _ _ _ h2
theorem in_sym {g : Nat → Nat} {N X L p : Nat} (hp : p ≤ L) : In L (sym g N X L p) := by
  intro a q e
  obtain ⟨h1, h2, rfl, rfl⟩ := sym_of e
  exact (dec_stays g N X L 15 p 0 0 h1 h2).2.1
set_option maxRecDepth 100000 in
set_option maxHeartbeats 1000000 in
/-- The document's next bits. -/
theorem takeX {α : Type} (S R B : Nat) (s : ByteArray) (n : Nat) (t : ByteArray) (most : Int) (r : Res α) (w : World) (h : Xs w S R s t most r) (hS : B ≤ S) (hR : B ≤ R) (hs : s.size ≤ 1048576) (hn : n ≤ 16) :
    Calls Try.prog 42 #[.pointer (some ⟨S, 0, none⟩), .int .i64 (n : Int)] w fun e w' => (e = .returned (.int .i64 (valOr (on (numS s) (8 * s.size) r (take n)) : Int)) ∧ Xs w' S R s t most (on (numS s) (8 * s.size) r (take n))) ∧ Kp TR B w w' := by
  have HT := hid h
  have c0 := h.c0
  have c3 := h.c3
  cases r with
  | bad f =>
    obtain ⟨e1, e2⟩ := h.told.ne rfl
    unfold whyOf at c3
    simp only [on_bad]
    go_enter Try.func42, Try.ntmps42
    go_wp2_with fail
    go_ret
    exact ⟨⟨rfl, HT.out.as rfl (fun b p e => by cases e) (fun g e => HT.out.told f rfl |> fun h => by cases e; exact h)⟩, Kp.refl _ _ _⟩
  | ok a p =>
    have hp := h.inn a p rfl
    have hrf := h.rd a p rfl
    have HRF := hid hrf
    unfold whyOf at c3
    simp only [on_ok]
    clear h hrf
    by_cases hl : p + n ≤ 8 * s.size
    · rw [take_ok hl]
      go_enter Try.func42, Try.ntmps42
      go_wp2_with fail
      have hlt : numS s / 2 ^ p % 2 ^ n < 65536 := by
        have h1 : numS s / 2 ^ p % 2 ^ n < 2 ^ n := Nat.mod_lt _ (Nat.pow_pos (by omega))
        have h2 := Nat.pow_le_pow_right (show 0 < 2 by decide) hn
        omega
      refine (refBitsN R s p n _ HRF.out hs hn hl).mono ?_
      rintro e w1 ⟨rfl, l1⟩
      have hst := hid ((l1.only.block S HT.out.lt HT.out.ne).trans HT.out.st)
      have K1 := hid (HT.out.kpR hR l1.only)
      have R1 := hid l1.rf
      have c0' : w1.cell? ⟨S, 0, none⟩ = some (.pointer (some ⟨R, 0, none⟩)) := by rw [cell_of_row w1 S 0 _ 46 (0, 0) hst.out]; rfl
      have d2 := l1.rf.c2
      clear l1 c0 c3
      obtain ⟨b, hb⟩ : ∃ b, numS s / 2 ^ p % 2 ^ n = b := ⟨_, rfl⟩
      rw [hb] at hlt ⊢
      have HA := hid hb
      clear hb
      have e1 : IntKind.i64.wrap (b : Int) = (b : Int) := IntWalk.i64_in _ (by omega)
      go_wp2_with fail
      go_ret
      exact ⟨⟨ret_int (by rw [HA.out]; rfl), hst.out, (fun b q e => by cases e; exact R1.out), ⟨_, R1.out⟩, (fun f e => by cases e), (fun b q e => by cases e; exact hl)⟩, K1.out⟩
    · rw [take_bad hl]
      go_enter Try.func42, Try.ntmps42
      go_wp2_with fail
      refine (refBitsB R s p n _ HRF.out hs hn hp hl).mono ?_
      rintro e w1 ⟨rfl, l1⟩
      have hst := hid ((l1.only.block S HT.out.lt HT.out.ne).trans HT.out.st)
      have K1 := hid (HT.out.kpR hR l1.only)
      have HX1 := hid (show Xs w1 S R s t most (.bad 0 : Res Nat) ∨ True from .inr trivial)
      have R1 := hid l1.rf
      have c0' : w1.cell? ⟨S, 0, none⟩ = some (.pointer (some ⟨R, 0, none⟩)) := by rw [cell_of_row w1 S 0 _ 46 (0, 0) hst.out]; rfl
      have c3' : w1.cell? ⟨S, 3, none⟩ = some (.int .i64 0) := by rw [cell_of_row w1 S 3 _ 46 (0, 0) hst.out]; rfl
      have d2 := l1.rf.c2
      have f3 : w1.frozen? ⟨S, 3, none⟩ = false := frozen_of_row w1 S 3 _ 46 hst.out
      have HNE := hid HT.out.ne
      clear l1 c0 c3
      go_wp2_with fail
      go_ret
      refine ⟨⟨rfl, heap_setCell_same w1 S 3 _ 46 _ hst.out, (fun b q e => by cases e), ⟨_, (heap_setCell_other w1 ⟨S, 3, none⟩ R _ (fun e => HNE.out e.symm)).trans R1.out⟩, (fun f e => by cases e; exact .inr (.inl rfl)), (fun b q e => by cases e)⟩, K1.out.trans (.of_only (Only.setCell S w1 3 _) hst.out (by decide) hS)⟩
theorem must_true {α : Type} (r : Res α) : must true r = r := by cases r <;> rfl
set_option maxRecDepth 100000 in
set_option maxHeartbeats 1000000 in
/-- Something has to be so. -/
theorem mustX {α : Type} (S R B : Nat) (s : ByteArray) (ok : Bool) (t : ByteArray) (most : Int) (r : Res α) (w : World) (h : Xs w S R s t most r) (hS : B ≤ S) :
    Calls Try.prog 52 #[.pointer (some ⟨S, 0, none⟩), .bool ok] w fun e w' => (e = .returned (.tuple #[]) ∧ Xs w' S R s t most (must ok r)) ∧ Kp TR B w w' := by
  have HT := hid h
  have c3 := h.c3
  have f3 := h.free 3
  cases r with
  | bad f =>
    obtain ⟨e1, e2⟩ := h.told.ne rfl
    unfold whyOf at c3
    simp only [must_bad]
    go_enter Try.func52, Try.ntmps52
    go_wp2_with fail
    go_returns
    exact ⟨⟨rfl, HT.out⟩, Kp.refl _ _ _⟩
  | ok a p =>
    unfold whyOf at c3
    simp only [must_ok]
    cases ok with
    | true =>
      rw [if_pos rfl]
      go_enter Try.func52, Try.ntmps52
      go_wp2_with fail
      go_returns
      exact ⟨⟨rfl, HT.out⟩, Kp.refl _ _ _⟩
    | false =>
      rw [if_neg (by simp)]
      go_enter Try.func52, Try.ntmps52
      go_wp2_with fail
      go_returns
      exact ⟨⟨rfl, HT.out.wrong (.inl rfl)⟩, HT.out.kpS hS 3 _⟩
set_option maxRecDepth 100000 in
set_option maxHeartbeats 1000000 in
/-- The document's next symbol. -/
theorem nextX {α : Type} (S R B : Nat) (s : ByteArray) (A Q : Option Addr) (b off N cap ccap : Nat) (x : Nat → Int) (t : ByteArray) (most : Int) (r : Res α) (w : World) (h : Xs w S R s t most r) (hS : B ≤ S) (hR : B ≤ R) (hs : s.size ≤ 1048576)
    (hA : 0 < N → A = some ⟨b, off, none⟩) (hl : LcF w R b off Q x N) (hf : Fine N x) :
    Calls Try.prog 54 #[.pointer (some ⟨S, 0, none⟩), .slice A N cap, .slice Q N ccap] w fun e w' => (e = .returned (.int .i64 (valOr (on (numS s) (8 * s.size) r (sym (natOf x) N)) : Int)) ∧ Xs w' S R s t most (on (numS s) (8 * s.size) r (sym (natOf x) N))) ∧ Kp TR B w w' := by
  have HT := hid h
  have c0 := h.c0
  have c3 := h.c3
  cases r with
  | bad f =>
    obtain ⟨e1, e2⟩ := h.told.ne rfl
    unfold whyOf at c3
    simp only [on_bad]
    go_enter Try.func54, Try.ntmps54
    go_wp2_with fail
    go_ret
    exact ⟨⟨rfl, HT.out.as rfl (fun b p e => by cases e) (fun g e => HT.out.told f rfl |> fun h => by cases e; exact h)⟩, Kp.refl _ _ _⟩
  | ok a p =>
    have hp := h.inn a p rfl
    unfold whyOf at c3
    simp only [on_ok]
    have HIN := hid (in_sym (g := natOf x) (N := N) (X := numS s) hp)
    have HTO := hid (told_sym (g := natOf x) (N := N) (X := numS s) (L := 8 * s.size) (p := p))
    have HN := hid (refNext A Q b off N cap ccap R s p x w hA hl hf (h.rd a p rfl) hs hp)
    have hv0 := dec_v0 (natOf x) N (numS s) (8 * s.size) 15 p 0 0
    have hbo := dec_bad (natOf x) N (numS s) (8 * s.size) 15 p 0 0
    unfold sym at HIN HTO ⊢
    obtain ⟨o, ho⟩ : ∃ o, o = decF (natOf x) N (numS s) (8 * s.size) 15 p 0 0 := ⟨_, rfl⟩
    rw [← ho] at HN hbo hv0 HIN HTO ⊢
    clear h hl ho hA
    obtain ⟨y, ok, q, bad⟩ := o
    have HNE := hid HT.out.ne
    cases bad with
    | true =>
      obtain rfl : ok = false := hbo rfl
      obtain rfl : y = 0 := hv0 rfl
      clear hbo hv0
      go_enter Try.func54, Try.ntmps54
      go_wp2_with fail
      refine HN.out.mono ?_
      rintro e w1 ⟨rfl, r1, o1⟩
      have hst := hid ((o1.block S HT.out.lt HT.out.ne).trans HT.out.st)
      have K1 := hid (HT.out.kpR hR o1)
      have R1 := hid r1
      have c0' : w1.cell? ⟨S, 0, none⟩ = some (.pointer (some ⟨R, 0, none⟩)) := by rw [cell_of_row w1 S 0 _ 46 (0, 0) hst.out]; rfl
      have c3' : w1.cell? ⟨S, 3, none⟩ = some (.int .i64 0) := by rw [cell_of_row w1 S 3 _ 46 (0, 0) hst.out]; rfl
      have d2 := r1.c2
      have f3 : w1.frozen? ⟨S, 3, none⟩ = false := frozen_of_row w1 S 3 _ 46 hst.out
      clear r1 o1 c0 c3
      go_wp2_with fail
      go_ret
      exact ⟨⟨rfl, heap_setCell_same w1 S 3 _ 46 _ hst.out, (fun b q e => by cases e), ⟨_, (heap_setCell_other w1 ⟨S, 3, none⟩ R _ (fun e => HNE.out e.symm)).trans R1.out⟩, HTO.out, (fun b q e => by cases e)⟩, K1.out.trans (.of_only (Only.setCell S w1 3 _) hst.out (by decide) hS)⟩
    | false =>
      cases ok with
      | true =>
        clear hbo hv0
        go_enter Try.func54, Try.ntmps54
        go_wp2_with fail
        refine HN.out.mono ?_
        rintro e w1 ⟨rfl, r1, o1⟩
        have hst := hid ((o1.block S HT.out.lt HT.out.ne).trans HT.out.st)
        have K1 := hid (HT.out.kpR hR o1)
        have R1 := hid r1
        have c0' : w1.cell? ⟨S, 0, none⟩ = some (.pointer (some ⟨R, 0, none⟩)) := by rw [cell_of_row w1 S 0 _ 46 (0, 0) hst.out]; rfl
        have d2 := r1.c2
        clear r1 o1 c0 c3
        go_wp2_with fail
        go_ret
        exact ⟨⟨rfl, hst.out, (fun b q e => by cases e; exact R1.out), ⟨_, R1.out⟩, HTO.out, HIN.out⟩, K1.out⟩
      | false =>
        obtain rfl : y = 0 := hv0 rfl
        clear hbo hv0
        go_enter Try.func54, Try.ntmps54
        go_wp2_with fail
        refine HN.out.mono ?_
        rintro e w1 ⟨rfl, r1, o1⟩
        have hst := hid ((o1.block S HT.out.lt HT.out.ne).trans HT.out.st)
        have K1 := hid (HT.out.kpR hR o1)
        have R1 := hid r1
        have c0' : w1.cell? ⟨S, 0, none⟩ = some (.pointer (some ⟨R, 0, none⟩)) := by rw [cell_of_row w1 S 0 _ 46 (0, 0) hst.out]; rfl
        have c3' : w1.cell? ⟨S, 3, none⟩ = some (.int .i64 0) := by rw [cell_of_row w1 S 3 _ 46 (0, 0) hst.out]; rfl
        have d2 := r1.c2
        have f3 : w1.frozen? ⟨S, 3, none⟩ = false := frozen_of_row w1 S 3 _ 46 hst.out
        clear r1 o1 c0 c3
        go_wp2_with fail
        go_ret
        exact ⟨⟨rfl, heap_setCell_same w1 S 3 _ 46 _ hst.out, (fun b q e => by cases e), ⟨_, (heap_setCell_other w1 ⟨S, 3, none⟩ R _ (fun e => HNE.out e.symm)).trans R1.out⟩, HTO.out, (fun b q e => by cases e)⟩, K1.out.trans (.of_only (Only.setCell S w1 3 _) hst.out (by decide) hS)⟩
/-- Bytes more, if there is room. -/
def putR {α : Type} (t u : ByteArray) (most : Int) (r : Res α) : Res α := match r with
  | .ok a p => if (t.size : Int) + u.size ≤ most then .ok a p else .bad 4
  | .bad e => .bad e
def putT {α : Type} (t u : ByteArray) (most : Int) (r : Res α) : ByteArray := match r with
  | .ok _ _ => if (t.size : Int) + u.size ≤ most then t ++ u else t
  | .bad _ => t
theorem putR_ok {α : Type} (t u : ByteArray) (most : Int) (a : α) (p : Nat) : putR t u most (.ok a p) = if (t.size : Int) + u.size ≤ most then .ok a p else .bad 4 := rfl
theorem putR_bad {α : Type} (t u : ByteArray) (most : Int) (e : Nat) : putR t u most (.bad e : Res α) = .bad e := rfl
theorem putT_ok {α : Type} (t u : ByteArray) (most : Int) (a : α) (p : Nat) : putT t u most (.ok a p) = if (t.size : Int) + u.size ≤ most then t ++ u else t := rfl
theorem putT_bad {α : Type} (t u : ByteArray) (most : Int) (e : Nat) : putT t u most (.bad e : Res α) = t := rfl
set_option maxRecDepth 100000 in
set_option maxHeartbeats 1000000 in
theorem putX {α : Type} (S R B : Nat) (s : ByteArray) (t u : ByteArray) (most : Int) (r : Res α) (w : World) (h : Xs w S R s t most r) (hS : B ≤ S) (ht : t.size ≤ 1048576) (hu : u.size ≤ 1048576) (hm : most ≤ 1048576) :
    Calls Try.prog 68 #[.pointer (some ⟨S, 0, none⟩), .string u] w fun e w' => (e = .returned (.tuple #[]) ∧ Xs w' S R s (putT t u most r) most (putR t u most r)) ∧ Kp TR B w w' := by
  have HT := hid h
  have c1 := h.c1
  have c2 := h.c2
  have c3 := h.c3
  have HG := hid (fun nq => HT.out.grow (w' := w.drewN nq) ⟨rfl, rfl, rfl, Nat.le_refl _, fun _ _ => rfl⟩)
  have HK := hid (fun nq => (Kp.refl TR B w).drewN nq)
  cases r with
  | bad f =>
    obtain ⟨e1, e2⟩ := h.told.ne rfl
    unfold whyOf at c3
    simp only [putR_bad, putT_bad]
    go_enter Try.func68, Try.ntmps68
    go_upto_region 0 with fail
    go_quiet (fail)
    have HG1 := hid (HG.out nq)
    have HK1 := hid (HK.out nq)
    generalize w.drewN nq = W at HG1 HK1 ⊢
    clear c1 c2 c3
    have c3 := HG1.out.c3
    unfold whyOf at c3
    go_wp2_with fail
    go_returns
    exact ⟨⟨rfl, HG1.out⟩, HK1.out⟩
  | ok a p =>
    unfold whyOf at c3
    simp only [putR_ok, putT_ok]
    have e1 : IntKind.i64.wrap ((t.size : Int) + (u.size : Int)) = (t.size : Int) + (u.size : Int) := IntWalk.i64_in _ (by omega)
    by_cases hl : (t.size : Int) + u.size ≤ most
    · simp only [if_pos hl]
      have g1 : decide (most < (t.size : Int) + (u.size : Int)) = false := by rw [decide_eq_false_iff_not]; omega
      have hcat : (t.size : Int) + (u.size : Int) ≤ 9223372036854775807 := by omega
      have hcat2 : ¬ 9223372036854775807 < t.size + u.size := by omega
      go_enter Try.func68, Try.ntmps68
      go_upto_region 0 with fail
      go_quiet (fail)
      have HG1 := hid (HG.out nq)
      have HK1 := hid (HK.out nq)
      generalize w.drewN nq = W at HG1 HK1 ⊢
      clear c1 c2 c3
      have c3 := HG1.out.c3
      have c1 := HG1.out.c1
      have f1 := HG1.out.free 1
      unfold whyOf at c3
      go_wp2_with fail
      go_returns
      exact ⟨⟨rfl, HG1.out.setT _⟩, HK1.out.trans (HG1.out.kpS hS 1 _)⟩
    · simp only [if_neg hl]
      have g1 : decide (most < (t.size : Int) + (u.size : Int)) = true := by rw [decide_eq_true_iff]; omega
      go_enter Try.func68, Try.ntmps68
      go_upto_region 0 with fail
      go_quiet (fail)
      have HG1 := hid (HG.out nq)
      have HK1 := hid (HK.out nq)
      generalize w.drewN nq = W at HG1 HK1 ⊢
      clear c1 c2 c3
      have c3 := HG1.out.c3
      have f3 := HG1.out.free 3
      have HW := hid (HG1.out.wrong (β := α) (f := 4) (.inr (.inr rfl)))
      unfold whyOf at c3
      go_wp2_with fail
      go_returns
      exact ⟨⟨rfl, HW.out⟩, HK1.out.trans (HG1.out.kpS hS 3 _)⟩
end Inf
end Go.Proofs.Ytlfohihmkfphhaa
