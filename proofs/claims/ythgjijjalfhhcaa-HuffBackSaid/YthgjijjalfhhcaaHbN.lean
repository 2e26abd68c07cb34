/- MATHEMATICS of symbols written and read again: no code begins another one. It imports nothing of the program. -/
import Derived.Test.YthgjijjalfhhcaaHrM
import Derived.Test.YthgjijjalfhhcaaHbM
namespace Go.Proofs.Huf

theorem rT_sT (g : Nat → Nat) (N : Nat) : ∀ k, k ≤ 15 → rT g N (k + 1) = sT g N k * 2 ^ (15 - k)
  | 0, _ => by simp [rT, sT, cT_zero]
  | k + 1, h => by
    have ih := rT_sT g N k (by omega)
    show rT g N (k + 1) + cT g N (k + 1) * 2 ^ (15 - (k + 1)) = (2 * sT g N k + cT g N (k + 1)) * 2 ^ (15 - (k + 1))
    rw [ih, show 15 - k = (15 - (k + 1)) + 1 by omega, Nat.pow_succ, Nat.add_mul, Nat.mul_comm 2 (sT g N k), Nat.mul_assoc, Nat.mul_comm 2]
theorem rT_mono (g : Nat → Nat) (N j : Nat) : ∀ k, j ≤ k → rT g N j ≤ rT g N k
  | 0, h => by obtain rfl : j = 0 := by omega
               exact Nat.le_refl _
  | k + 1, h => by
    by_cases e : j = k + 1
    · rw [e]; exact Nat.le_refl _
    · have := rT_mono g N j k (by omega)
      show rT g N j ≤ rT g N k + cT g N k * 2 ^ (15 - k)
      omega
theorem sT_kraft {g : Nat → Nat} {N k : Nat} (h : rT g N 16 ≤ 32768) (hk : k ≤ 15) : sT g N k ≤ 2 ^ k := by
  have h1 := rT_mono g N (k + 1) 16 (by omega)
  rw [rT_sT g N k hk] at h1
  have h2 : sT g N k * 2 ^ (15 - k) ≤ 2 ^ k * 2 ^ (15 - k) := by
    rw [← Nat.pow_add, show k + (15 - k) = 15 by omega]
    exact Nat.le_trans h1 h
  exact Nat.le_of_mul_le_mul_right h2 (Nat.two_pow_pos _)
theorem code_sT {g : Nat → Nat} {N i : Nat} (hi : i < N) (h0 : g i ≠ 0) : fT g N (g i) ≤ codeAt g N i ∧ codeAt g N i < sT g N (g i) := by
  rw [codeAt_pos h0, sT_eq]
  have h := cT_mono g (g i) (i + 1) N (by omega)
  rw [cT_succ, if_pos ⟨rfl, h0⟩] at h
  omega
theorem code_lt {g : Nat → Nat} {N i : Nat} (h : rT g N 16 ≤ 32768) (hi : i < N) (h0 : g i ≠ 0) (h15 : g i ≤ 15) : codeAt g N i < 2 ^ g i :=
  Nat.lt_of_lt_of_le (code_sT hi h0).2 (sT_kraft h h15)
theorem sT_up (g : Nat → Nat) (N m : Nat) : ∀ d, 2 ^ d * sT g N m ≤ sT g N (m + d)
  | 0 => by simp
  | d + 1 => by
    have ih := sT_up g N m d
    show _ ≤ 2 * sT g N (m + d) + cT g N (m + d + 1)
    rw [Nat.pow_succ, Nat.mul_comm (2 ^ d) 2, Nat.mul_assoc]
    omega
theorem fT_up (g : Nat → Nat) (N m n : Nat) (h : m < n) : 2 ^ (n - m) * sT g N m ≤ fT g N n := by
  obtain ⟨d, rfl⟩ : ∃ d, n = m + d + 1 := ⟨n - m - 1, by omega⟩
  have := sT_up g N m d
  show _ ≤ 2 * sT g N (m + d)
  rw [show m + d + 1 - m = d + 1 by omega, Nat.pow_succ, Nat.mul_comm (2 ^ d) 2, Nat.mul_assoc]
  omega
/-- No code begins another one. -/
theorem prefix_free {g : Nat → Nat} {N i j : Nat} (hi : i < N) (hj : j < N) (h0 : g i ≠ 0) (hle : g i ≤ g j) (h : codeAt g N j / 2 ^ (g j - g i) = codeAt g N i) : i = j := by
  by_cases c : g i < g j
  · exfalso
    have h1 := (code_sT (g := g) hj (by omega)).1
    have h2 := fT_up g N (g i) (g j) c
    have h3 := (code_sT (g := g) hi h0).2
    have h4 : sT g N (g i) ≤ codeAt g N j / 2 ^ (g j - g i) := by
      rw [Nat.le_div_iff_mul_le (Nat.two_pow_pos _), Nat.mul_comm]
      omega
    omega
  · have e : g j = g i := by omega
    rw [e, Nat.sub_self, Nat.pow_zero, Nat.div_one, codeAt_pos h0, codeAt_pos (by omega), e] at h
    have hc : cT g j (g i) = cT g i (g i) := by omega
    by_cases a : i < j
    · have := cT_mono g (g i) (i + 1) j (by omega)
      rw [cT_succ, if_pos ⟨rfl, h0⟩] at this
      omega
    · by_cases b : j < i
      · have := cT_mono g (g i) (j + 1) i (by omega)
        rw [cT_succ, if_pos ⟨e, h0⟩] at this
        omega
      · omega

/-- The bits of the first k symbols, and how many. -/
def encT (g : Nat → Nat) (N : Nat) (s : Nat → Nat) : Nat → Nat × Nat
  | 0 => (0, 0)
  | k + 1 => ((encT g N s k).1 + 2 ^ (encT g N s k).2 * (turn (codeAt g N (s k)) (g (s k)) % 2 ^ g (s k)), (encT g N s k).2 + g (s k))
theorem enc_one (g : Nat → Nat) (N : Nat) (s : Nat → Nat) (k : Nat) : (encT g N s (k + 1)).1 = (encT g N s k).1 + 2 ^ (encT g N s k).2 * (turn (codeAt g N (s k)) (g (s k)) % 2 ^ g (s k)) := rfl
theorem enc_two (g : Nat → Nat) (N : Nat) (s : Nat → Nat) (k : Nat) : (encT g N s (k + 1)).2 = (encT g N s k).2 + g (s k) := rfl
theorem enc_lt (g : Nat → Nat) (N : Nat) (s : Nat → Nat) : ∀ k, (encT g N s k).1 < 2 ^ (encT g N s k).2
  | 0 => Nat.one_pos
  | k + 1 => Bit.more_lt _ _ _ _ (enc_lt g N s k) (Nat.mod_lt _ (Nat.two_pow_pos _))
theorem enc_low (g : Nat → Nat) (N : Nat) (s : Nat → Nat) (k : Nat) : ∀ d, (encT g N s (k + d)).1 % 2 ^ (encT g N s k).2 = (encT g N s k).1 ∧ (encT g N s k).2 ≤ (encT g N s (k + d)).2
  | 0 => ⟨Nat.mod_eq_of_lt (enc_lt g N s k), Nat.le_refl _⟩
  | d + 1 => by
    obtain ⟨h1, h2⟩ := enc_low g N s k d
    refine ⟨?_, Nat.le_trans h2 (Nat.le_add_right _ _)⟩
    show ((encT g N s (k + d)).1 + 2 ^ (encT g N s (k + d)).2 * _) % _ = _
    obtain ⟨e, he⟩ : ∃ e, (encT g N s (k + d)).2 = (encT g N s k).2 + e := ⟨_, (Nat.add_sub_cancel' h2).symm⟩
    rw [he, Nat.pow_add, Nat.mul_assoc, Nat.add_mul_mod_self_left]
    exact h1
/-- The bits of one symbol. -/
theorem enc_bits (g : Nat → Nat) (N : Nat) (s : Nat → Nat) (k L : Nat) (h : k < L) :
    (encT g N s L).1 / 2 ^ (encT g N s k).2 % 2 ^ g (s k) = turn (codeAt g N (s k)) (g (s k)) ∧ (encT g N s k).2 + g (s k) ≤ (encT g N s L).2 := by
  obtain ⟨d, rfl⟩ : ∃ d, L = (k + 1) + d := ⟨L - (k + 1), by omega⟩
  obtain ⟨h1, h2⟩ := enc_low g N s (k + 1) d
  refine ⟨?_, h2⟩
  have hl := enc_lt g N s k
  rw [← Nat.mod_mul_right_div_self, ← Nat.pow_add]
  have e : (encT g N s (k + 1)).2 = (encT g N s k).2 + g (s k) := rfl
  rw [← e, h1, enc_one, Nat.add_mul_div_left _ _ (Nat.two_pow_pos _), Nat.div_eq_of_lt hl, Nat.zero_add, Nat.mod_eq_of_lt (turn_lt _ _)]

theorem turn_bitN (c n d : Nat) (h : d < n) : turn c n / 2 ^ d % 2 = c / 2 ^ (n - 1 - d) % 2 := by
  have h1 := turn_bit c n d h
  rw [Nat.testBit_eq_decide_div_mod_eq, Nat.testBit_eq_decide_div_mod_eq] at h1
  have a := Nat.mod_two_eq_zero_or_one (turn c n / 2 ^ d)
  have b := Nat.mod_two_eq_zero_or_one (c / 2 ^ (n - 1 - d))
  rcases a with a | a <;> rcases b with b | b <;> simp [a, b] at h1 ⊢
theorem bit_of (X p n d : Nat) (h : d < n) : bitN X (p + d) = X / 2 ^ p % 2 ^ n / 2 ^ d % 2 := by
  unfold bitN
  obtain ⟨e, rfl⟩ : ∃ e, n = d + (e + 1) := ⟨n - d - 1, by omega⟩
  rw [Nat.pow_add, ← Nat.div_div_eq_div_mul, Nat.pow_add 2 d (e + 1), Nat.mod_mul_right_div_self, Nat.pow_succ, Nat.mul_comm (2 ^ e) 2, Nat.mod_mul_right_mod]
theorem code_step (c n d : Nat) (h : d < n) : 2 * (c / 2 ^ (n - d)) + c / 2 ^ (n - 1 - d) % 2 = c / 2 ^ (n - (d + 1)) := by
  obtain ⟨e, rfl⟩ : ∃ e, n = d + 1 + e := ⟨n - (d + 1), by omega⟩
  rw [show d + 1 + e - d = e + 1 by omega, show d + 1 + e - 1 - d = e by omega, show d + 1 + e - (d + 1) = e by omega, Nat.pow_succ, ← Nat.div_div_eq_div_mul]
  omega

/-- A symbol that was written is read. -/
theorem dec_enc {g : Nat → Nat} {N X L p i : Nat} (hi : i < N) (h0 : g i ≠ 0) (h15 : g i ≤ 15) (hX : X / 2 ^ p % 2 ^ g i = turn (codeAt g N i) (g i)) (hL : p + g i ≤ L) :
    ∀ e d, g i = d + e → 1 ≤ e → decF g N X L (15 - d) (p + d) d (codeAt g N i / 2 ^ (g i - d)) = ⟨i, true, p + g i, false⟩
  | 0, _, _, h1 => by omega
  | e + 1, d, hd, _ => by
    have hf : 15 - d = (14 - d) + 1 := by omega
    have hb : 2 * (codeAt g N i / 2 ^ (g i - d)) + bitN X (p + d) = codeAt g N i / 2 ^ (g i - (d + 1)) := by
      rw [bit_of X p (g i) d (by omega), hX, turn_bitN _ _ _ (by omega)]
      exact code_step _ _ _ (by omega)
    rw [hf]
    by_cases c : e = 0
    · subst c
      have e1 : g i - (d + 1) = 0 := by omega
      have e2 : d + 1 = g i := by omega
      rw [e1, Nat.pow_zero, Nat.div_one] at hb
      have hfi : findT g N N (d + 1) (2 * (codeAt g N i / 2 ^ (g i - d)) + bitN X (p + d)) = some i := by
        rw [hb, e2]
        cases hq : findT g N N (g i) (codeAt g N i) with
        | none =>
          exfalso
          cases hj : findT g N i (g i) (codeAt g N i) with
          | some k => rw [find_keep hj N (by omega)] at hq; cases hq
          | none => rw [find_keep (find_here hj rfl rfl) N (by omega)] at hq; cases hq
        | some k =>
          obtain ⟨a, b, c⟩ := find_some hq
          have := prefix_free (g := g) (N := N) (i := k) (j := i) a hi (by omega) (by omega) (by rw [b, Nat.sub_self, Nat.pow_zero, Nat.div_one]; exact c.symm)
          rw [this]
      rw [dec_hit (by omega) hfi]
      congr 1
      omega
    · have hfi : findT g N N (d + 1) (2 * (codeAt g N i / 2 ^ (g i - d)) + bitN X (p + d)) = none := by
        rw [hb]
        apply find_none
        rintro k hk ⟨a, b⟩
        have := prefix_free (g := g) (N := N) (i := k) (j := i) hk hi (by omega) (by omega) (by rw [a]; exact b.symm)
        subst this
        omega
      rw [dec_on (by omega) hfi, hb]
      have ih := dec_enc hi h0 h15 hX hL e (d + 1) (by omega) (by omega)
      rw [show 14 - d = 15 - (d + 1) by omega, Nat.add_assoc]
      exact ih
theorem dec_all {g : Nat → Nat} {N X L : Nat} {s : Nat → Nat} {k M : Nat} (hk : k < M) (hi : s k < N) (h0 : g (s k) ≠ 0) (h15 : g (s k) ≤ 15) (hc : codeAt g N (s k) < 2 ^ g (s k)) (hX : X = (encT g N s M).1) (hL : (encT g N s M).2 ≤ L) :
    decF g N X L 15 (encT g N s k).2 0 0 = ⟨s k, true, (encT g N s (k + 1)).2, false⟩ := by
  obtain ⟨h1, h2⟩ := enc_bits g N s k M hk
  have h := dec_enc (g := g) (N := N) (X := X) (L := L) (p := (encT g N s k).2) hi h0 h15 (by rw [hX]; exact h1) (by omega) (g (s k)) 0 (by omega) (by omega)
  rw [Nat.sub_zero, Nat.add_zero, Nat.sub_zero, Nat.div_eq_of_lt hc] at h
  exact h

/-- The number of the bytes of a number. -/
theorem num_put : ∀ k N, numL (Bit.putL N k) = N % 256 ^ k
  | 0, N => by simp [Bit.putL, numL, Nat.mod_one]
  | k + 1, N => by
    rw [Bit.putL_cons]
    show (UInt8.ofNat (N % 256)).toNat + 256 * numL (Bit.putL (N / 256) k) = _
    rw [num_put k (N / 256), Nat.pow_succ, Nat.mul_comm (256 ^ k) 256, Nat.mod_mul]
    simp

/-- How often a symbol came among the first k. -/
def manyT (s : Nat → Nat) : Nat → Nat → Nat
  | 0, _ => 0
  | k + 1, y => manyT s k y + if s k = y then 1 else 0
theorem manyT_le (s : Nat → Nat) (y : Nat) : ∀ k, manyT s k y ≤ k
  | 0 => Nat.le_refl _
  | k + 1 => by
    have := manyT_le s y k
    show manyT s k y + _ ≤ _
    split <;> omega
/-- What the first n symbols cost. -/
def costT (g m : Nat → Nat) : Nat → Nat
  | 0 => 0
  | n + 1 => costT g m n + g n * m n
theorem cost_step (g : Nat → Nat) (s : Nat → Nat) (k : Nat) : ∀ n, costT g (manyT s (k + 1)) n = costT g (manyT s k) n + if s k < n then g (s k) else 0
  | 0 => by simp [costT]
  | n + 1 => by
    have ih := cost_step g s k n
    show costT g (manyT s (k + 1)) n + g n * (manyT s k n + if s k = n then 1 else 0) = costT g (manyT s k) n + g n * manyT s k n + _
    rw [ih]
    by_cases e : s k = n
    · rw [if_pos e, if_neg (by omega), if_pos (by omega), e, Nat.mul_add, Nat.mul_one]
      omega
    · rw [if_neg e, Nat.add_zero]
      by_cases c : s k < n
      · rw [if_pos c, if_pos (by omega)]; omega
      · rw [if_neg c, if_neg (by omega)]; omega
theorem cost_enc (g : Nat → Nat) (N : Nat) (s : Nat → Nat) : ∀ k, (∀ t, t < k → s t < N) → costT g (manyT s k) N = (encT g N s k).2
  | 0, _ => by
    have : ∀ n, costT g (manyT s 0) n = 0 := by
      intro n
      induction n with
      | zero => rfl
      | succ n ih => show costT g (manyT s 0) n + g n * 0 = 0; rw [ih, Nat.mul_zero]
    rw [this]; rfl
  | k + 1, h => by
    rw [cost_step, cost_enc g N s k (fun t ht => h t (by omega)), if_pos (h k (by omega))]
    rfl
theorem enc_le (g : Nat → Nat) (N : Nat) (s : Nat → Nat) : ∀ k, (∀ t, t < k → g (s t) ≤ 15) → (encT g N s k).2 ≤ 15 * k
  | 0, _ => Nat.le_refl _
  | k + 1, h => by
    have := enc_le g N s k (fun t ht => h t (by omega))
    have := h k (by omega)
    rw [enc_two]
    omega
theorem cost_le (g m : Nat → Nat) : ∀ n, (∀ i, i < n → g i ≤ 15 ∧ m i ≤ 60) → costT g m n ≤ n * 900
  | 0, _ => Nat.le_refl _
  | n + 1, h => by
    have h1 := cost_le g m n (fun i hi => h i (by omega))
    obtain ⟨h2, h3⟩ := h n (by omega)
    have h4 : g n * m n ≤ 15 * 60 := Nat.mul_le_mul h2 h3
    show costT g m n + g n * m n ≤ _
    omega
end Go.Proofs.Huf
