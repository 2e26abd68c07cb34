/- MATHEMATICS of codes of unlike lengths, and of 32 bits the other way round. It imports nothing of the program. -/
namespace Go.Proofs.Huf

/-- How many of the first j lengths are n (of 0 none is counted). -/
def cT (g : Nat → Nat) : Nat → Nat → Nat
  | 0, _ => 0
  | j + 1, n => cT g j n + if g j = n ∧ n ≠ 0 then 1 else 0
/-- The room that a code of a length takes. -/
def wt (x : Nat) : Nat := if x = 0 then 0 else 2 ^ (15 - x)
/-- The room of the first j codes. -/
def wT (g : Nat → Nat) : Nat → Nat
  | 0 => 0
  | j + 1 => wT g j + wt (g j)
/-- The room of all codes of the lengths below n. -/
def rT (g : Nat → Nat) (N : Nat) : Nat → Nat
  | 0 => 0
  | n + 1 => rT g N n + cT g N n * 2 ^ (15 - n)
/-- One more than the last code of length k. -/
def sT (g : Nat → Nat) (N : Nat) : Nat → Nat
  | 0 => 0
  | k + 1 => 2 * sT g N k + cT g N (k + 1)
/-- The first code of length k. -/
def fT (g : Nat → Nat) (N : Nat) : Nat → Nat
  | 0 => 0
  | k + 1 => 2 * sT g N k
/-- A symbol's code. -/
def codeAt (g : Nat → Nat) (N i : Nat) : Nat := if g i = 0 then 0 else fT g N (g i) + cT g i (g i)
def kindOf (r : Nat) : Nat := if r = 0 then 0 else if r < 32768 then 2 else if r = 32768 then 1 else 3

theorem cT_zero (g : Nat → Nat) : ∀ j, cT g j 0 = 0
  | 0 => rfl
  | j + 1 => by simp [cT, cT_zero g j]
theorem cT_succ (g : Nat → Nat) (j n : Nat) : cT g (j + 1) n = cT g j n + if g j = n ∧ n ≠ 0 then 1 else 0 := rfl
theorem cT_le (g : Nat → Nat) (n : Nat) : ∀ j, cT g j n ≤ j
  | 0 => Nat.le_refl _
  | j + 1 => by
    have := cT_le g n j
    rw [cT_succ]
    split <;> omega
theorem cT_mono (g : Nat → Nat) (n j : Nat) : ∀ k, j ≤ k → cT g j n ≤ cT g k n
  | 0, h => by obtain rfl : j = 0 := by omega
               exact Nat.le_refl _
  | k + 1, h => by
    by_cases e : j = k + 1
    · rw [e]; exact Nat.le_refl _
    · have := cT_mono g n j k (by omega)
      rw [cT_succ]
      omega
theorem sT_eq (g : Nat → Nat) (N : Nat) : ∀ k, sT g N k = fT g N k + cT g N k
  | 0 => by simp [sT, fT, cT_zero]
  | _ + 1 => rfl
theorem fT_succ (g : Nat → Nat) (N k : Nat) : fT g N (k + 1) = (fT g N k + cT g N k) * 2 := by
  show 2 * sT g N k = _
  rw [sT_eq]; omega
theorem sT_le (g : Nat → Nat) (N : Nat) : ∀ k, sT g N k + N ≤ N * 2 ^ k
  | 0 => by simp [sT]
  | k + 1 => by
    have h1 := sT_le g N k
    have h2 := cT_le g (k + 1) N
    rw [Nat.pow_succ, ← Nat.mul_assoc]
    show 2 * sT g N k + cT g N (k + 1) + N ≤ _
    omega
theorem sT_bd (g : Nat → Nat) (N k : Nat) (hN : N ≤ 300) (hk : k ≤ 15) : sT g N k ≤ 9830400 := by
  have h := sT_le g N k
  have h1 : N * 2 ^ k ≤ 300 * 2 ^ 15 := Nat.mul_le_mul hN (Nat.pow_le_pow_right (by decide) hk)
  omega
theorem fT_bd (g : Nat → Nat) (N k j : Nat) (hN : N ≤ 300) (hk : k ≤ 15) (hj : j ≤ N) : fT g N k + cT g j k ≤ 9830400 := by
  have h := sT_bd g N k hN hk
  rw [sT_eq] at h
  have := cT_mono g k j N hj
  omega
theorem codeAt_zero {g : Nat → Nat} {N i : Nat} (h : g i = 0) : codeAt g N i = 0 := by unfold codeAt; rw [if_pos h]
theorem codeAt_pos {g : Nat → Nat} {N i : Nat} (h : g i ≠ 0) : codeAt g N i = fT g N (g i) + cT g i (g i) := by unfold codeAt; rw [if_neg h]
theorem codeAt_bd (g : Nat → Nat) (N i : Nat) (hN : N ≤ 300) (hi : i ≤ N) (hg : g i ≤ 15) : codeAt g N i ≤ 9830400 := by
  by_cases h : g i = 0
  · rw [codeAt_zero h]; omega
  · rw [codeAt_pos h]; exact fT_bd g N (g i) i hN hg hi

theorem rT_step (g : Nat → Nat) (N : Nat) : ∀ n, rT g (N + 1) n = rT g N n + if g N < n then wt (g N) else 0
  | 0 => by simp [rT]
  | n + 1 => by
    have h := rT_step g N n
    show rT g (N + 1) n + cT g (N + 1) n * 2 ^ (15 - n) = rT g N n + cT g N n * 2 ^ (15 - n) + _
    rw [h, cT_succ]
    by_cases e : g N = n
    · have a1 : ¬ g N < n := by omega
      have a2 : g N < n + 1 := by omega
      rw [if_neg a1, if_pos a2]
      by_cases z : n = 0
      · rw [if_neg (fun h => h.2 z)]
        unfold wt
        rw [if_pos (e.trans z)]
        simp only [Nat.add_zero]
      · rw [if_pos ⟨e, z⟩]
        unfold wt
        rw [if_neg (by omega), e, Nat.add_mul, Nat.one_mul]
        simp only [Nat.add_zero]
        omega
    · rw [if_neg (show ¬ (g N = n ∧ n ≠ 0) from fun h => e h.1)]
      by_cases c : g N < n
      · rw [if_pos c, if_pos (show g N < n + 1 by omega)]
        simp only [Nat.add_zero]
        omega
      · rw [if_neg c, if_neg (show ¬ g N < n + 1 by omega)]
        simp only [Nat.add_zero]
theorem rT_zero (g : Nat → Nat) : ∀ n, rT g 0 n = 0
  | 0 => rfl
  | n + 1 => by simp [rT, rT_zero g n, cT]
theorem rT_wT (g : Nat → Nat) : ∀ N, (∀ i, i < N → g i ≤ 15) → rT g N 16 = wT g N
  | 0, _ => rT_zero g 16
  | N + 1, h => by
    have hg := h N (by omega)
    rw [rT_step, rT_wT g N (fun i hi => h i (by omega)), if_pos (by omega)]
    rfl
theorem wt_le (x : Nat) : wt x ≤ 16384 := by
  unfold wt
  split
  · omega
  · have := Nat.pow_le_pow_right (show 0 < 2 by decide) (show 15 - x ≤ 14 by omega)
    omega
theorem wT_le (g : Nat → Nat) : ∀ N, wT g N ≤ N * 16384
  | 0 => Nat.le_refl _
  | N + 1 => by
    have := wT_le g N
    have := wt_le (g N)
    show wT g N + wt (g N) ≤ _
    omega
theorem rT_le (g : Nat → Nat) (N : Nat) : ∀ n, rT g N n ≤ n * (N * 32768)
  | 0 => Nat.zero_le _
  | n + 1 => by
    have h1 := rT_le g N n
    have h2 := cT_le g n N
    have h3 : 2 ^ (15 - n) ≤ 2 ^ 15 := Nat.pow_le_pow_right (by decide) (by omega)
    have h4 : cT g N n * 2 ^ (15 - n) ≤ N * 2 ^ 15 := Nat.mul_le_mul h2 h3
    show rT g N n + cT g N n * 2 ^ (15 - n) ≤ _
    rw [Nat.add_mul]
    omega
theorem half_pow (i : Nat) (h : i < 15) : 2 ^ (15 - i) / 2 = 2 ^ (15 - (i + 1)) := by
  have e : 15 - i = (15 - (i + 1)) + 1 := by omega
  rw [e, Nat.pow_succ, Nat.mul_div_cancel _ (by decide)]

/-! 32 bits the other way round. -/
/-- Every s-th run of bits changes places with the next one; m: which runs are the lower ones. -/
def swp (s m x : Nat) : Nat := ((x / 2 ^ s) &&& m) ||| ((x &&& m) * 2 ^ s % 4294967296)
/-- What a step does to a place. -/
def Fits (s m : Nat) : Prop := ∀ i, i < 32 → (m.testBit i = true ∧ i + s = i ^^^ s ∧ (i < s ∨ m.testBit (i - s) = false)) ∨ (m.testBit i = false ∧ s ≤ i ∧ i - s = i ^^^ s ∧ m.testBit (i - s) = true)
instance (s m : Nat) : Decidable (Fits s m) := by unfold Fits; infer_instance
theorem swp_lt (s m x : Nat) (hm : m < 4294967296) : swp s m x < 4294967296 := by
  unfold swp
  exact Nat.or_lt_two_pow (n := 32) (Nat.and_lt_two_pow _ hm) (Nat.mod_lt _ (by decide))
theorem swp_bit (s m x i : Nat) (h : Fits s m) (hi : i < 32) : (swp s m x).testBit i = x.testBit (i ^^^ s) := by
  unfold swp
  rw [Nat.testBit_or, Nat.testBit_and, Nat.testBit_div_two_pow, show (4294967296 : Nat) = 2 ^ 32 from rfl, Nat.testBit_mod_two_pow, Nat.testBit_mul_two_pow, Nat.testBit_and]
  rcases h i hi with ⟨a, b, c⟩ | ⟨a, b, c, d⟩
  · rw [a, b]
    rcases c with c | c
    · have : ¬ s ≤ i := by omega
      simp [this]
    · simp [c]
  · rw [a, d, c]
    simp [hi, b]

def swp16 (x : Nat) : Nat := (x / 2 ^ 16) ||| (x * 2 ^ 16 % 4294967296)
theorem swp16_bit (x i : Nat) (hx : x < 4294967296) (hi : i < 32) : (swp16 x).testBit i = x.testBit (i ^^^ 16) := by
  have hF : ∀ j, j < 32 → (j < 16 ∧ j + 16 = j ^^^ 16) ∨ (16 ≤ j ∧ j - 16 = j ^^^ 16) := by decide +kernel
  unfold swp16
  rw [Nat.testBit_or, Nat.testBit_div_two_pow, show (4294967296 : Nat) = 2 ^ 32 from rfl, Nat.testBit_mod_two_pow, Nat.testBit_mul_two_pow]
  rcases hF i hi with ⟨a, b⟩ | ⟨a, b⟩
  · rw [b]
    have : ¬ 16 ≤ i := by omega
    simp [this]
  · rw [← b]
    have h0 : x.testBit (i + 16) = false := Nat.testBit_lt_two_pow (Nat.lt_of_lt_of_le hx (by rw [show (4294967296 : Nat) = 2 ^ 32 from rfl]; exact Nat.pow_le_pow_right (by decide) (by omega)))
    simp [h0, hi, a]
theorem swp16_lt (x : Nat) (hx : x < 4294967296) : swp16 x < 4294967296 := by
  unfold swp16
  exact Nat.or_lt_two_pow (n := 32) (Nat.lt_of_le_of_lt (Nat.div_le_self _ _) hx) (Nat.mod_lt _ (by decide))
def rev8 (x : Nat) : Nat := swp16 (swp 8 16711935 x)
def rev (x : Nat) : Nat := rev8 (swp 4 252645135 (swp 2 858993459 (swp 1 1431655765 x)))
theorem fits1 : Fits 1 1431655765 := by decide +kernel
theorem fits2 : Fits 2 858993459 := by decide +kernel
theorem fits4 : Fits 4 252645135 := by decide +kernel
theorem fits8 : Fits 8 16711935 := by decide +kernel
theorem rev_bit (x i : Nat) (hi : i < 32) : (rev x).testBit i = x.testBit (31 - i) := by
  have h : ∀ j, j < 32 → j ^^^ 16 < 32 ∧ j ^^^ 16 ^^^ 8 < 32 ∧ j ^^^ 16 ^^^ 8 ^^^ 4 < 32 ∧ j ^^^ 16 ^^^ 8 ^^^ 4 ^^^ 2 < 32 ∧ j ^^^ 16 ^^^ 8 ^^^ 4 ^^^ 2 ^^^ 1 = 31 - j := by decide +kernel
  obtain ⟨h1, h2, h3, h4, h5⟩ := h i hi
  unfold rev rev8
  rw [swp16_bit _ _ (swp_lt _ _ _ (by decide)) hi, swp_bit _ _ _ _ fits8 h1, swp_bit _ _ _ _ fits4 h2, swp_bit _ _ _ _ fits2 h3, swp_bit _ _ _ _ fits1 h4, h5]
theorem rev_lt (x : Nat) : rev x < 4294967296 := swp16_lt _ (swp_lt _ _ _ (by decide))

/-- The first k bits, the lowest one first. -/
def turn (v : Nat) : Nat → Nat
  | 0 => 0
  | k + 1 => 2 * turn v k + v / 2 ^ k % 2
theorem turn_lt (v : Nat) : ∀ k, turn v k < 2 ^ k
  | 0 => by simp [turn]
  | k + 1 => by
    have := turn_lt v k
    rw [Nat.pow_succ]
    show 2 * turn v k + v / 2 ^ k % 2 < _
    omega
theorem turn_bit (v : Nat) : ∀ k i, i < k → (turn v k).testBit i = v.testBit (k - 1 - i)
  | 0, i, h => by omega
  | k + 1, 0, _ => by
    show (2 * turn v k + v / 2 ^ k % 2).testBit 0 = v.testBit (k + 1 - 1 - 0)
    rw [Nat.testBit_zero, show k + 1 - 1 - 0 = k from by omega, Nat.testBit_eq_decide_div_mod_eq]
    congr 1
    rw [Nat.mul_add_mod, Nat.mod_mod]
  | k + 1, i + 1, h => by
    have ih := turn_bit v k i (by omega)
    show (2 * turn v k + v / 2 ^ k % 2).testBit (i + 1) = _
    rw [Nat.testBit_succ, show (2 * turn v k + v / 2 ^ k % 2) / 2 = turn v k from by omega, ih]
    congr 1
    omega
theorem turn_rev (v k : Nat) (hk : k ≤ 32) : rev v / 2 ^ (32 - k) = turn v k := by
  apply Nat.eq_of_testBit_eq
  intro i
  rw [Nat.testBit_div_two_pow]
  by_cases h : i < k
  · rw [turn_bit v k i h, rev_bit v (i + (32 - k)) (by omega)]
    congr 1
    omega
  · have e1 : (rev v).testBit (i + (32 - k)) = false := Nat.testBit_lt_two_pow (Nat.lt_of_lt_of_le (rev_lt v) (by rw [show (4294967296 : Nat) = 2 ^ 32 from rfl]; exact Nat.pow_le_pow_right (by decide) (by omega)))
    have e2 : (turn v k).testBit i = false := Nat.testBit_lt_two_pow (Nat.lt_of_lt_of_le (turn_lt v k) (Nat.pow_le_pow_right (by decide) (by omega)))
    rw [e1, e2]
end Go.Proofs.Huf
