/- INFLATE: mathematics, no program: how great what is read may be. -/
import Derived.Test.YtlfohihmkfphhaaJnfM
namespace Go.Proofs.Ytlfohihmkfphhaa
set_option linter.unusedVariables false
open Go.Proofs.Huf
namespace Inf
open Go.Proofs.Sym in
theorem long_range {n c k m : Int} (h : IsLong n c k m true) : 3 ≤ n ∧ n ≤ 258 ∧ 0 ≤ k ∧ k ≤ 5 := by
  have key : ∀ p, p < 28 → 3 ≤ beg 3 4 p ∧ beg 3 4 (p + 1) ≤ 259 ∧ wide 4 p ≤ 5 := by decide
  rcases h with ⟨rfl, _, rfl, _⟩ | ⟨_, p, ⟨h1, h2, h3⟩, _, rfl, _⟩ | ⟨_, _, _, _, h⟩
  · omega
  · have := key p h1
    omega
  · cases h
open Go.Proofs.Sym in
theorem back_range {n c k m : Int} (h : IsBack n c k m true) : 1 ≤ n ∧ n ≤ 32768 := by
  have key : ∀ p, p < 30 → 1 ≤ beg 1 2 p ∧ beg 1 2 (p + 1) ≤ 32769 := by decide
  rcases h with ⟨p, ⟨h1, h2, h3⟩, _, rfl, _⟩ | ⟨_, _, _, _, h⟩
  · have := key p h1
    omega
  · cases h
theorem lbits_le (c : Nat) : lbits c ≤ 16 ∧ -1 ≤ lbits c := by
  rcases lbits_is c with ⟨x, m, h⟩ | ⟨_, h⟩
  · have := long_range h; omega
  · omega
theorem lof_in (c m : Nat) (h : (lof c m).2 = true) : 3 ≤ (lof c m).1 ∧ (lof c m).1 ≤ 258 := by
  rcases lof_is c m with ⟨k, h1, _⟩ | ⟨_, _, h2⟩
  · have := long_range h1; omega
  · rw [h] at h2; cases h2
theorem bof_in (c m : Nat) (h : (bof c m).2 = true) : 1 ≤ (bof c m).1 ∧ (bof c m).1 ≤ 32768 := by
  rcases bof_is c m with ⟨k, h1, _⟩ | ⟨_, _, h2⟩
  · have := back_range h1; omega
  · rw [h] at h2; cases h2
open Go.Proofs.Sym in
theorem bbits_le (c : Nat) : backBits (c : Int) ≤ 16 ∧ -1 ≤ backBits (c : Int) := by
  unfold backBits
  split
  · omega
  · rename_i h
    have : wide 2 (c : Int).toNat ≤ 14 := by
      unfold wide
      have : (c : Int).toNat ≤ 29 := by omega
      omega
    omega
theorem signed_of {b : Int} {f : Nat → Int × Bool} {X L p n q : Nat} (h : signedP b f X L p = .ok n q) : ∃ m, (f m).2 = true ∧ n = (f m).1.toNat ∧ p ≤ q ∧ (p ≤ L → q ≤ L) := by
  unfold signedP at h
  split at h
  · cases h
  · obtain ⟨m, k, h1, h2⟩ := bind_of h
    unfold take at h1
    split at h1
    · cases h1
      split at h2
      · cases h2
        exact ⟨_, by assumption, rfl, by omega, fun _ => by assumption⟩
      · cases h2
    · cases h1
theorem long_of {c X L p n q : Nat} (h : signedP (lbits c) (lof c) X L p = .ok n q) : 3 ≤ n ∧ n ≤ 258 ∧ p ≤ q ∧ (p ≤ L → q ≤ L) := by
  obtain ⟨m, h1, rfl, h3⟩ := signed_of h
  have := lof_in c m h1
  exact ⟨by omega, by omega, h3⟩
theorem back_of {c X L p n q : Nat} (h : signedP (Go.Proofs.Sym.backBits (c : Int)) (bof c) X L p = .ok n q) : 1 ≤ n ∧ n ≤ 32768 ∧ p ≤ q ∧ (p ≤ L → q ≤ L) := by
  obtain ⟨m, h1, rfl, h3⟩ := signed_of h
  have := bof_in c m h1
  exact ⟨by omega, by omega, h3⟩
theorem read_of {c : Cds} {X L p n q : Nat} (h : c.read X L p = .ok n q) : n < c.n ∧ p < q ∧ q ≤ L := by
  unfold Cds.read at h
  split at h
  · obtain ⟨h1, h2, rfl, rfl⟩ := sym_of h
    obtain ⟨i1, i2, _⟩ := dec_stays _ _ _ _ _ _ _ _ h1 h2
    refine ⟨?_, i1, i2⟩
    have key : ∀ f p n v, (decF c.g c.n X L f p n v).ok = true → (decF c.g c.n X L f p n v).v < c.n := by
      intro f
      induction f with
      | zero => intro p n v h; simp [decF] at h
      | succ f ih =>
        intro p n v h
        by_cases hc : p < L
        · cases hq : findT c.g c.n c.n (n + 1) (2 * v + bitN X p) with
          | some i => rw [dec_hit hc hq]; exact (find_some hq).1
          | none => rw [dec_on hc hq] at h ⊢; exact ih _ _ _ h
        · rw [dec_miss hc] at h; cases h
    exact key _ _ _ _ h2
  · cases h
theorem repeat_of {most : Nat} {out : List UInt8} {long back X L p : Nat} {o : List UInt8} {q : Nat} (h : repeatP most out long back X L p = .ok o q) : o.length ≤ most ∧ q = p ∧ o = copyT out back long := by
  unfold repeatP at h
  split at h
  · split at h
    · cases h
      rw [copyT_len]
      exact ⟨by assumption, rfl, rfl⟩
    · cases h
  · cases h
theorem take_le {n m k X L p : Nat} (h : take n X L p = .ok m k) : p ≤ k ∧ k ≤ L := by
  unfold take at h
  split at h
  · cases h; exact ⟨by omega, by assumption⟩
  · cases h
theorem take_lt {n m k X L p : Nat} (h : take n X L p = .ok m k) : m < 2 ^ n := by
  unfold take at h
  split at h
  · cases h; exact Nat.mod_lt _ (Nat.pow_pos (by decide))
  · cases h
/-- What is read of the lengths of lengths. -/
theorem lol_of : ∀ (k i : Nat) (f f' : Nat → Nat) (X L p q : Nat), (∀ j, f j ≤ 7) → lolF k i f X L p = .ok f' q → (∀ j, f' j ≤ 7) ∧ p ≤ q ∧ (p ≤ L → q ≤ L)
  | 0, i, f, f', X, L, p, q, hf, h => by cases h; exact ⟨hf, Nat.le_refl _, id⟩
  | k + 1, i, f, f', X, L, p, q, hf, h => by
    unfold lolF at h
    obtain ⟨v, m, h1, h2⟩ := bind_of h
    unfold take at h1
    split at h1
    · cases h1
      obtain ⟨a, b, c⟩ := lol_of k (i + 1) _ f' X L _ q (fun j => by
        unfold upd
        split
        · have : X / 2 ^ p % 2 ^ 3 < 2 ^ 3 := Nat.mod_lt _ (by decide)
          omega
        · exact hf j) h2
      exact ⟨a, by omega, fun _ => c (by assumption)⟩
    · cases h1
def Small (l : List Nat) : Prop := ∀ i, i < l.length → fnL l i ≤ 15
theorem small_app {l : List Nat} (h : Small l) (v t : Nat) (hv : v ≤ 15) : Small (l ++ List.replicate t v) := by
  intro i hi
  unfold fnL
  simp only [List.getD_eq_getElem?_getD]
  by_cases c : i < l.length
  · rw [List.getElem?_append_left c]
    have := h i c
    unfold fnL at this
    simpa [List.getD_eq_getElem?_getD] using this
  · rw [List.getElem?_append_right (by omega)]
    have : i - l.length < t := by simp at hi; omega
    simp [this]
    exact hv
theorem run_of {c : Nat} {l : List Nat} {X L p : Nat} {r : Nat × Nat} {q : Nat} (hc : c < 19) (hl : Small l) (h : runP c l X L p = .ok r q) : r.1 ≤ 15 ∧ 1 ≤ r.2 ∧ r.2 ≤ 138 ∧ p ≤ q ∧ (p ≤ L → q ≤ L) := by
  have ht : ∀ {n m k X L p : Nat}, take n X L p = .ok m k → m < 2 ^ n ∧ p ≤ k ∧ k ≤ L := by
    intro n m k X L p h
    unfold take at h
    split at h
    · cases h; exact ⟨Nat.mod_lt _ (Nat.pow_pos (by decide)), by omega, by assumption⟩
    · cases h
  unfold runP at h
  split at h
  · split at h
    · cases h
    · obtain ⟨t, k, h1, h2⟩ := bind_of h
      cases h2
      have := ht h1
      have := hl (l.length - 1) (by omega)
      unfold fnL at this
      exact ⟨this, by simp; omega, by simp; omega, by omega, fun _ => by omega⟩
  · split at h
    · obtain ⟨t, k, h1, h2⟩ := bind_of h
      cases h2
      have := ht h1
      exact ⟨by simp, by simp; omega, by simp; omega, by omega, fun _ => by omega⟩
    · split at h
      · obtain ⟨t, k, h1, h2⟩ := bind_of h
        cases h2
        have := ht h1
        exact ⟨by simp, by simp; omega, by simp; omega, by omega, fun _ => by omega⟩
      · cases h
        exact ⟨by simp; omega, by simp, by simp, Nat.le_refl _, id⟩
theorem row_of (g : Nat → Nat) (long : Nat) : ∀ (F : Nat) (l l' : List Nat) (X L p q : Nat), p ≤ L → Small l → l.length ≤ long → rowF g long F l X L p = .ok l' q → Small l' ∧ l'.length = long ∧ p ≤ q ∧ q ≤ L
  | 0, l, l', X, L, p, q, _, _, _, h => by cases h
  | F + 1, l, l', X, L, p, q, hp, hs, hll, h => by
    unfold rowF at h
    split at h
    · obtain ⟨c, m, h1, h2⟩ := bind_of h
      obtain ⟨r, k, h3, h4⟩ := bind_of h2
      have hc : c < 19 ∧ p < m ∧ m ≤ L := read_of (c := ⟨g, 19, true⟩) (by unfold Cds.read; rw [if_pos rfl]; exact h1)
      obtain ⟨r1, r2, r3, r4, r5⟩ := run_of hc.1 hs h3
      split at h4
      · obtain ⟨a, b, d, e⟩ := row_of g long F _ l' X L k q (r5 hc.2.2) (small_app hs _ _ r1) (by simp; assumption) h4
        exact ⟨a, b, by omega, e⟩
      · cases h4
    · cases h
      exact ⟨hs, by omega, Nat.le_refl _, hp⟩
theorem small_take {l : List Nat} (h : Small l) (n : Nat) : Small (l.take n) := by
  intro i hi
  unfold fnL
  have h1 : i < n := by simp at hi; omega
  have h2 : i < l.length := by simp at hi; omega
  have := h i h2
  unfold fnL at this
  simp only [List.getD_eq_getElem?_getD] at this ⊢
  rw [List.getElem?_take_of_lt h1]
  exact this
theorem small_drop {l : List Nat} (h : Small l) (n : Nat) : Small (l.drop n) := by
  intro i hi
  unfold fnL
  have h2 : n + i < l.length := by simp at hi; omega
  have := h (n + i) h2
  unfold fnL at this
  simp only [List.getD_eq_getElem?_getD] at this ⊢
  rw [List.getElem?_drop]
  exact this
theorem used_zero {x : Nat → Nat} : ∀ {n : Nat}, usedT x n = 0 → wT x n = 0
  | 0, _ => rfl
  | n + 1, h => by
    unfold usedT at h
    have h1 := used_zero (x := x) (n := n) (by omega)
    have h2 : x n = 0 := by
      by_cases c : x n = 0
      · exact c
      · rw [if_neg c] at h; omega
    show wT x n + wt (x n) = 0
    rw [h1, h2]
    rfl
theorem used_one {x : Nat → Nat} : ∀ {n : Nat}, usedT x n = 1 → wT x n = wt (lastT x n)
  | 0, h => by simp [usedT] at h
  | n + 1, h => by
    unfold usedT at h
    unfold lastT
    show wT x n + wt (x n) = _
    by_cases c : x n = 0
    · rw [if_pos c] at h ⊢
      rw [used_one (n := n) (by omega), c]
      rfl
    · rw [if_neg c] at h ⊢
      rw [used_zero (n := n) (by omega), Nat.zero_add]
theorem ok_kind {x : Nat → Nat} {n : Nat} (h : lensOk x n) : kindOf (wT x n) = 1 ∨ kindOf (wT x n) = 2 := by
  rcases h with ⟨h1, h2⟩ | h
  · rw [used_one h1, h2]
    exact .inr rfl
  · exact .inl h
theorem tables_of {F X L p q : Nat} {t : List Nat × List Nat} (hp : p ≤ L) (h : tablesP F X L p = .ok t q) : Small t.1 ∧ Small t.2 ∧ t.1.length ≤ 286 ∧ t.2.length ≤ 30 ∧ 257 ≤ t.1.length ∧ 1 ≤ t.2.length ∧ p ≤ q ∧ q ≤ L ∧
    (kindOf (wT (fnL t.1) t.1.length) = 1 ∨ kindOf (wT (fnL t.1) t.1.length) = 2) := by
  unfold tablesP at h
  obtain ⟨a, p1, h1, h⟩ := bind_of h
  obtain ⟨b, p2, h2, h⟩ := bind_of h
  obtain ⟨k, p3, h3, h⟩ := bind_of h
  obtain ⟨m1, m2⟩ := take_le h1
  obtain ⟨m3, m4⟩ := take_le h2
  obtain ⟨m5, m6⟩ := take_le h3
  split at h
  · rename_i hab
    obtain ⟨f, p4, h4, h⟩ := bind_of h
    obtain ⟨_, l1, l2⟩ := lol_of _ _ _ _ _ _ _ _ (fun j => Nat.zero_le _) h4
    split at h
    · obtain ⟨l, p5, h5, h⟩ := bind_of h
      obtain ⟨s1, s2, s3, s4⟩ := row_of f _ _ _ _ _ _ _ _ (l2 m6) (fun i hi => by simp at hi) (by simp) h5
      split at h
      · rename_i htab
        cases h
        have e1 : (l.take (a + 257)).length = a + 257 := by simp; omega
        have e2 : (l.drop (a + 257)).length = b + 1 := by simp; omega
        refine ⟨small_take s1 _, small_drop s1 _, by rw [e1]; omega, by rw [e2]; omega, by rw [e1]; omega, by rw [e2]; omega, by omega, s4, ?_⟩
        rw [e1]
        exact ok_kind htab.2.1
      · cases h
    · cases h
  · cases h
end Inf
end Go.Proofs.Ytlfohihmkfphhaa
