/- LZ: a place is put into the chains. -/
import Derived.Test.YtlhgkemiakekoaaLzQ
namespace Go.Proofs.Ytlhgkemiakekoaa
set_option linter.unusedVariables false
open Go.RowKit Go.Maps
attribute [local go_sem ↓] Go.wp_at_zero Go.wp_at_succ
namespace Lz
/-- None, or (with 1 added) a place ahead of n where such a key stands. -/
def OkV (s : ByteArray) (n : Nat) (a b c : Int) (v : Int) : Prop := v = 0 ∨ ∃ q : Nat, v = (q : Int) + 1 ∧ q < n ∧ q + 3 ≤ s.size ∧ (byteT s q : Int) = a ∧ (byteT s (q + 1) : Int) = b ∧ (byteT s (q + 2) : Int) = c
theorem OkV.mono {s : ByteArray} {n m : Nat} {a b c v : Int} (h : OkV s n a b c v) (hn : n ≤ m) : OkV s m a b c v := by
  rcases h with h | ⟨q, h1, h2, h3⟩
  · exact .inl h
  · exact .inr ⟨q, h1, by omega, h3⟩
/-- As OkV, and none only if such a key stands nowhere ahead of n. -/
def OkM (s : ByteArray) (n : Nat) (a b c : Int) (v : Int) : Prop := OkV s n a b c v ∧ (v = 0 → ∀ q : Nat, q < n → q + 3 ≤ s.size → ¬ ((byteT s q : Int) = a ∧ (byteT s (q + 1) : Int) = b ∧ (byteT s (q + 2) : Int) = c))
/-- Chains of places, those ahead of n. -/
structure Ch (W : World) (s : ByteArray) (G B R n : Nat) : Prop where
  rG : W.heap[G]? = some (.cells #[.string s, .map (some B), .slice (some ⟨R, 0, none⟩) s.size s.size] 52 (0, 0))
  mp : ∃ D : DataW Unit, W.ownsMap Try.prog 57 (plainElem Try.prog 3) B n D ∧ IsMap D ∧ ∀ a b c l v, keyOf Try.prog 57 (keyV a b c) = some l → D.atKey l (.lit (.int .i64 0)) = .lit (.int .i64 v) → OkM s n a b c v
  rR : ∃ (cs : Array Value) (f : Nat → Int), W.heap[R]? = some (.cells cs 3 (0, 0)) ∧ ∀ i, i < s.size → cs[i]? = some (.int .i64 (f i)) ∧ OkV s i (byteT s i : Nat) (byteT s (i + 1) : Nat) (byteT s (i + 2) : Nat) (f i)
  ne1 : G ≠ R
  ne2 : G ≠ B
  ne3 : R ≠ B
theorem Ch.step {W W' : World} {s : ByteArray} {G B R n : Nat} (h : Ch W s G B R n) (hb : Below W.heap.size W W') : Ch W' s G B R n := by
  obtain ⟨D, h1, h2, h3⟩ := h.mp
  obtain ⟨cs, f, h4, h5⟩ := h.rR
  exact ⟨row_b h.rG hb, ⟨D, h1.kept (grown_of_below hb) (by simp), h2, h3⟩, ⟨cs, f, row_b h4 hb, h5⟩, h.ne1, h.ne2, h.ne3⟩
theorem Ch.mono {W : World} {s : ByteArray} {G B R n m : Nat} (h : Ch W s G B R n) (hm : n ≤ m) (hz : s.size < n + 3) : Ch W s G B R m := by
  obtain ⟨D, h1, h2, h3⟩ := h.mp
  exact ⟨h.rG, ⟨D, h1.mono hm, h2, fun a b c l v e1 e2 => ⟨(h3 a b c l v e1 e2).1.mono hm, fun e q hq hq3 => (h3 a b c l v e1 e2).2 e q (by omega) hq3⟩⟩, h.rR, h.ne1, h.ne2, h.ne3⟩
theorem Ch.look {W : World} {s : ByteArray} {G B R n : Nat} (h : Ch W s G B R n) (p : Nat) : ∃ v, (Instr.lookup 49 (.map (some B)) (keyP s p) false).run Try.prog W = .ok (.int .i64 v) W ∧ OkM s n (byteT s p : Nat) (byteT s (p + 1) : Nat) (byteT s (p + 2) : Nat) v := by
  obtain ⟨D, h1, h2, h3⟩ := h.mp
  have u : ∀ k, 0 ≤ (byteT s k : Int) ∧ (byteT s k : Int) < 256 := fun k => by have := byteT_lt s k; omega
  obtain ⟨l, hl⟩ := key_is _ _ _ (u p) (u (p + 1)) (u (p + 2))
  obtain ⟨v, hrun, hat, _⟩ := h1.lookup_int klaw und49 und3i (zeroE W) hl
  exact ⟨v, hrun, h3 _ _ _ l v hl hat⟩
theorem Ch.cG {W : World} {s : ByteArray} {G B R n : Nat} (h : Ch W s G B R n) : W.cell? ⟨G, 0, none⟩ = some (.string s) ∧ W.cell? ⟨G, 1, none⟩ = some (.map (some B)) ∧ W.cell? ⟨G, 2, none⟩ = some (.slice (some ⟨R, 0, none⟩) s.size s.size) :=
  ⟨by rw [cell_of_row _ _ _ _ _ _ h.rG]; rfl, by rw [cell_of_row _ _ _ _ _ _ h.rG]; rfl, by rw [cell_of_row _ _ _ _ _ _ h.rG]; rfl⟩
theorem Ch.drew {W : World} {s : ByteArray} {G B R n : Nat} (h : Ch W s G B R n) : Ch W.drew s G B R n := h.step (Below.refl _ _).drew
/-- What stood ahead of a place, laid. -/
theorem Ch.setA {W : World} {s : ByteArray} {G B R n p : Nat} (h : Ch W s G B R n) {v : Int} (hv : OkV s p (byteT s p : Nat) (byteT s (p + 1) : Nat) (byteT s (p + 2) : Nat) v) : Ch (W.setCell ⟨R, p, none⟩ (.int .i64 v)) s G B R n := by
  obtain ⟨D, h1, h2, h3⟩ := h.mp
  obtain ⟨cs, f, h4, h5⟩ := h.rR
  refine ⟨(heap_setCell_other W ⟨R, p, none⟩ G _ h.ne1).trans h.rG, ⟨D, h1.kept (row := some R) ⟨rfl, rfl, rfl, by simp, fun k _ hk => heap_setCell_other W ⟨R, p, none⟩ k _ (fun e => hk (by rw [e]))⟩ (fun e => h.ne3 (by simpa using e.symm)), h2, h3⟩, ⟨cs.setIfInBounds p (.int .i64 v), fun i => if i = p then v else f i, heap_setCell_same _ _ _ _ _ _ h4, fun i hi => ?_⟩, h.ne1, h.ne2, h.ne3⟩
  obtain ⟨g1, g2⟩ := h5 i hi
  rw [Array.getElem?_setIfInBounds]
  by_cases e : p = i
  · subst e
    have hlt : p < cs.size := (Array.getElem?_eq_some_iff.1 g1).1
    simp only [if_true, if_pos hlt]
    exact ⟨trivial, hv⟩
  · have e' : ¬ i = p := fun h => e h.symm
    rw [if_neg e]
    simp only [if_neg e']
    exact ⟨g1, g2⟩
/-- The latest place of a key, laid. -/
theorem Ch.setM {W : World} {s : ByteArray} {G B R p : Nat} (h : Ch W s G B R p) (hp : p + 3 ≤ s.size) (hs : s.size ≤ 1000000) :
    ∃ W', (Instr.mapUpdate 49 (.map (some B)) (keyP s p) (.int .i64 ((p : Int) + 1))).run Try.prog W = .ok () W' ∧ Ch W' s G B R (p + 1) ∧ W.grownBy W' (some B) := by
  obtain ⟨D, h1, h2, h3⟩ := h.mp
  obtain ⟨cs, f, h4, h5⟩ := h.rR
  have u : ∀ k, 0 ≤ (byteT s k : Int) ∧ (byteT s k : Int) < 256 := fun k => by have := byteT_lt s k; omega
  obtain ⟨l, hl⟩ := key_is _ _ _ (u p) (u (p + 1)) (u (p + 2))
  obtain ⟨W', hrun, r1, r2⟩ := h1.update klaw und49 (by unfold maxLen; omega) hl (plainElem_int (H := Unit) und3i (a := (p : Int) + 1) (WalkArith.wf_i64 (by omega)))
  have kb : ∀ {g : Nat} {o : Obj}, W.heap[g]? = some o → g ≠ B → W'.heap[g]? = some o := fun hg hne => (r2.block _ (Array.getElem?_eq_some_iff.1 hg).1 (by simpa using hne)).trans hg
  refine ⟨W', hrun, ⟨kb h.rG h.ne2, ⟨_, r1, ?_, fun a b c l' v e1 e2 => ?_⟩, ⟨cs, f, kb h4 h.ne3, h5⟩, h.ne1, h.ne2, h.ne3⟩, r2⟩
  · exact h2.put _ _
  · by_cases e : l' = l
    · subst e
      rw [atKey_put_same h2 (klaw.key hl)] at e2
      have hk := klaw.inj e1 hl
      simp only [Value.agg.injEq] at hk
      simp at hk
      simp at e2
      exact ⟨.inr ⟨p, by omega, by omega, hp, hk.1.symm, hk.2.1.symm, hk.2.2.symm⟩, fun e9 => by omega⟩
    · rw [atKey_put_other e] at e2
      refine ⟨(h3 a b c l' v e1 e2).1.mono (by omega), fun e9 q hq hq3 hh => ?_⟩
      by_cases eq : q = p
      · subst eq
        obtain ⟨rfl, rfl, rfl⟩ := hh
        exact e (Option.some.inj (e1.symm.trans hl))
      · exact (h3 a b c l' v e1 e2).2 e9 q (by omega) hq3 hh
theorem Ch.lt {W : World} {s : ByteArray} {G B R n : Nat} (h : Ch W s G B R n) : G < W.heap.size ∧ B < W.heap.size ∧ R < W.heap.size := by
  obtain ⟨D, h1, _, _⟩ := h.mp
  obtain ⟨cs, f, h4, _⟩ := h.rR
  exact ⟨(Array.getElem?_eq_some_iff.1 h.rG).1, h1.lt, (Array.getElem?_eq_some_iff.1 h4).1⟩
theorem Ch.cR {W : World} {s : ByteArray} {G B R n p : Nat} (h : Ch W s G B R n) (hp : p < s.size) : ∃ x : Int, W.cell? ⟨R, p, none⟩ = some (.int .i64 x) ∧ W.frozen? ⟨R, p, none⟩ = false ∧ OkV s p (byteT s p : Nat) (byteT s (p + 1) : Nat) (byteT s (p + 2) : Nat) x := by
  obtain ⟨cs, f, h4, h5⟩ := h.rR
  exact ⟨f p, by rw [cell_of_row _ _ _ _ _ _ h4]; exact (h5 p hp).1, frozen_of_row _ _ _ _ _ h4, (h5 p hp).2⟩
/-- Two blocks aside, what was there is there. -/
structure Off (R B : Nat) (W W' : World) : Prop where
  size : W.heap.size ≤ W'.heap.size
  block : ∀ k, k < W.heap.size → k ≠ R → k ≠ B → W'.heap[k]? = W.heap[k]?
theorem Off.trans {R B : Nat} {X Y Z : World} (h : Off R B X Y) (k : Off R B Y Z) : Off R B X Z := ⟨Nat.le_trans h.size k.size, fun j hj h1 h2 => (k.block j (Nat.lt_of_lt_of_le hj h.size) h1 h2).trans (h.block j hj h1 h2)⟩
theorem off_below {R B : Nat} {W W' : World} (h : Below W.heap.size W W') : Off R B W W' := ⟨h.size, fun k hk _ _ => h.block k hk⟩
theorem off_set (R B : Nat) (W : World) (i : Nat) (v : Value) : Off R B W (W.setCell ⟨R, i, none⟩ v) := ⟨by simp, fun k _ h1 _ => heap_setCell_other W ⟨R, i, none⟩ k _ h1⟩
theorem off_drew (R B : Nat) (W : World) : Off R B W W.drew := ⟨Nat.le_refl _, fun _ _ _ _ => rfl⟩
theorem off_grown {R B : Nat} {W W' : World} (h : W.grownBy W' (some B)) : Off R B W W' := ⟨h.size, fun k hk _ h2 => h.block k hk (by simpa using h2)⟩
set_option maxRecDepth 100000 in
set_option maxHeartbeats 2000000 in
theorem put (s : ByteArray) (G B R p n₀ : Nat) (w : World) (hs : s.size ≤ 1000000) (hp : p < s.size) (h : Ch w s G B R p) (hn : n₀ ≤ w.heap.size) (hB : n₀ ≤ B) (hR : n₀ ≤ R) :
    Calls Try.prog 22 #[.pointer (some ⟨G, 0, none⟩), .int .i64 p] w fun e w' => (∃ v, e = .returned v) ∧ Ch w' s G B R (p + 1) ∧ Below n₀ w w' ∧ Off R B w w' := by
  have HC := hid h
  obtain ⟨l1, l2, l3⟩ := h.lt
  by_cases h3 : p + 3 ≤ s.size
  · have HK := hid (keyAt_yes s p G w hs h3 l1 h.cG.1)
    clear h
    go_enter Try.func22, Try.ntmps22
    go_wp2_with fail
    refine HK.out.mono ?_
    rintro e w1 ⟨rfl, b1⟩
    have K1 := hid (HC.out.step b1)
    have HB1 := hid (b1.mono hn)
    have HF1 := hid (off_below (R := R) (B := B) b1)
    have hz1 := b1.size
    clear b1
    go_upto_region 2 with fail
    have K2 := hid (K1.out.step ((Below.refl w1.heap.size w1).alloc (Nat.le_refl _) (.cells #[.int .u8 (byteT s p : Nat), .int .u8 (byteT s (p + 1) : Nat), .int .u8 (byteT s (p + 2) : Nat)] 57)))
    have HB2 := hid (HB1.out.alloc (by omega) (.cells #[.int .u8 (byteT s p : Nat), .int .u8 (byteT s (p + 1) : Nat), .int .u8 (byteT s (p + 2) : Nat)] 57))
    have HF2 := hid (HF1.out.trans (off_below ((Below.refl w1.heap.size w1).alloc (Nat.le_refl _) (.cells #[.int .u8 (byteT s p : Nat), .int .u8 (byteT s (p + 1) : Nat), .int .u8 (byteT s (p + 2) : Nat)] 57))))
    have RK := hid (heap_alloc_new w1 (.cells #[.int .u8 (byteT s p : Nat), .int .u8 (byteT s (p + 1) : Nat), .int .u8 (byteT s (p + 2) : Nat)] 57))
    generalize w1.alloc (.cells #[.int .u8 (byteT s p : Nat), .int .u8 (byteT s (p + 1) : Nat), .int .u8 (byteT s (p + 2) : Nat)] 57) = W2 at K2 HB2 HF2 RK ⊢
    obtain ⟨v, hrun, hv⟩ := K2.out.drew.look p
    have HV := hid hv.1
    obtain ⟨cG0, cG1, cG2⟩ := K2.out.cG
    have k0 := cell30 RK.out
    have k1 : W2.cell? ⟨w1.heap.size, 1, none⟩ = some (.int .u8 (byteT s (p + 1) : Nat)) := by rw [cell_of_row _ _ _ _ _ _ RK.out]; rfl
    have k2 : W2.cell? ⟨w1.heap.size, 2, none⟩ = some (.int .u8 (byteT s (p + 2) : Nat)) := by rw [cell_of_row _ _ _ _ _ _ RK.out]; rfl
    obtain ⟨x, cR, fR, _⟩ := K2.out.cR hp
    have hpi : (p : Int) < (s.size : Int) := by omega
    clear hv
    go_region
    have K3 := hid (K2.out.setA HV.out).drew
    have HB3 := hid (HB2.out.setCell (p := ⟨R, p, none⟩) hR (.int .i64 v)).drew
    have HF3 := hid ((HF2.out.trans (off_set R B W2 p (.int .i64 v))).trans (off_drew R B _))
    have RK3 := hid (show (W2.setCell ⟨R, p, none⟩ (.int .i64 v)).drew.heap[w1.heap.size]? = _ from (heap_setCell_other W2 ⟨R, p, none⟩ w1.heap.size (.int .i64 v) (by show w1.heap.size ≠ R; have := HC.out.lt; have := K1.out.lt; omega)).trans RK.out)
    clear cG0 cG1 cG2 k0 k1 k2 cR fR hrun
    generalize (W2.setCell ⟨R, p, none⟩ (.int .i64 v)).drew = W3 at K3 HB3 HF3 RK3 ⊢
    go_upto_region 3 with fail
    obtain ⟨W4, hup, K4, hg4⟩ := K3.out.drew.setM h3 hs
    have HK4 := hid K4
    have HB4 := hid (HB3.out.drew.grown hg4 (by have := HB3.out.size; simpa using Nat.le_trans hn this) (fun k hk => by cases hk; exact hB))
    have HF4 := hid ((HF3.out.trans (off_drew R B _)).trans (off_grown hg4))
    obtain ⟨cG0, cG1, cG2⟩ := K3.out.cG
    have k0 := cell30 RK3.out
    have k1 : W3.cell? ⟨w1.heap.size, 1, none⟩ = some (.int .u8 (byteT s (p + 1) : Nat)) := by rw [cell_of_row _ _ _ _ _ _ RK3.out]; rfl
    have k2 : W3.cell? ⟨w1.heap.size, 2, none⟩ = some (.int .u8 (byteT s (p + 2) : Nat)) := by rw [cell_of_row _ _ _ _ _ _ RK3.out]; rfl
    have w0 : IntKind.i64.wrap ((p : Int) + 1) = (p : Int) + 1 := IntWalk.i64_in _ (by omega)
    clear K4 hg4
    go_region
    all_goals go_wp2
    all_goals go_returns
    all_goals exact ⟨⟨_, rfl⟩, HK4.out, HB4.out, HF4.out⟩
  · have HK := hid (keyAt_no s p G w (by omega) (by omega) hs (by omega) l1 h.cG.1)
    clear h
    go_enter Try.func22, Try.ntmps22
    go_wp2_with fail
    refine HK.out.mono ?_
    rintro e w1 ⟨rfl, b1⟩
    have K1 := hid ((HC.out.step b1).mono (Nat.le_succ p) (by omega))
    have HB1 := hid (b1.mono hn)
    have HF1 := hid (off_below (R := R) (B := B) b1)
    have hz1 := b1.size
    clear b1
    go_wp2_with fail
    go_returns
    exact ⟨⟨_, rfl⟩, K1.out.step ((Below.refl _ _).alloc (Nat.le_refl _) _), HB1.out.alloc (by omega) _, HF1.out.trans (off_below ((Below.refl _ _).alloc (Nat.le_refl _) _))⟩
end Lz
end Go.Proofs.Ytlhgkemiakekoaa
