/- MATHEMATICS of symbols read bit by bit. It imports nothing of the program. -/
import Derived.Test.YtlfohihmkfphhaaHufM
namespace Go.Proofs.Huf

/-- The number of a text, its first byte the lowest. -/
def numL : List UInt8 → Nat
  | [] => 0
  | c :: t => c.toNat + 256 * numL t
theorem num_byte : ∀ (l : List UInt8) (i : Nat) (h : i < l.length), numL l / 256 ^ i % 256 = (l[i]).toNat
  | [], i, h => by simp at h
  | c :: t, 0, h => by
    have := UInt8.toNat_lt c
    simp [numL]
  | c :: t, i + 1, h => by
    have := UInt8.toNat_lt c
    have ih := num_byte t i (by simpa using h)
    rw [Nat.pow_succ, Nat.mul_comm (256 ^ i), ← Nat.div_div_eq_div_mul]
    have e : numL (c :: t) / 256 = numL t := by simp only [numL]; omega
    rw [e, ih]
    simp
/-- A bit. -/
def bitN (X p : Nat) : Nat := X / 2 ^ p % 2
theorem bitN_lt (X p : Nat) : bitN X p < 2 := Nat.mod_lt _ (by decide)
theorem p256 (k : Nat) : 256 ^ k = 2 ^ (8 * k) := by rw [Nat.pow_mul]
theorem part_of (X K m n : Nat) (h : m + n ≤ 8 * K) : X % 256 ^ K / 2 ^ m % 2 ^ n = X / 2 ^ m % 2 ^ n := by
  rw [p256, show 8 * K = m + (8 * K - m) by omega, Nat.pow_add, Nat.mod_mul_right_div_self, Nat.mod_mod_of_dvd _ (Nat.pow_dvd_pow 2 (by omega))]
theorem from_of (N p : Nat) : N / 256 ^ (p / 8) / 2 ^ (p % 8) = N / 2 ^ p := by
  rw [p256, Nat.div_div_eq_div_mul, ← Nat.pow_add, show 8 * (p / 8) + p % 8 = p by omega]
theorem bit_byte (X p : Nat) : X / 256 ^ (p / 8) % 256 / 2 ^ (p % 8) % 2 = bitN X p := by
  have h := part_of (X / 256 ^ (p / 8)) 1 (p % 8) 1 (by omega)
  rw [from_of] at h
  unfold bitN
  simpa using h

/-- Which of the first j symbols has a code of so many bits. -/
def findT (g : Nat → Nat) (N : Nat) : Nat → Nat → Nat → Option Nat
  | 0, _, _ => none
  | j + 1, n, v => match findT g N j n v with
    | some i => some i
    | none => if g j = n ∧ codeAt g N j = v then some j else none
theorem find_some {g : Nat → Nat} {N n v i : Nat} : ∀ {j}, findT g N j n v = some i → i < j ∧ g i = n ∧ codeAt g N i = v
  | 0, h => by simp [findT] at h
  | j + 1, h => by
    unfold findT at h
    cases hq : findT g N j n v with
    | some k =>
      rw [hq] at h
      simp at h
      subst h
      obtain ⟨a, b⟩ := find_some hq
      exact ⟨by omega, b⟩
    | none =>
      rw [hq] at h
      simp at h
      obtain ⟨⟨a, b⟩, rfl⟩ := h
      exact ⟨by omega, a, b⟩
theorem find_keep {g : Nat → Nat} {N n v i : Nat} {j : Nat} (h : findT g N j n v = some i) : ∀ k, j ≤ k → findT g N k n v = some i
  | 0, hk => by obtain rfl : j = 0 := by omega
                exact h
  | k + 1, hk => by
    by_cases e : j = k + 1
    · rw [← e]; exact h
    · have := find_keep h k (by omega)
      unfold findT
      rw [this]
theorem find_next {g : Nat → Nat} {N n v j : Nat} (h : findT g N j n v = none) (hn : ¬ (g j = n ∧ codeAt g N j = v)) : findT g N (j + 1) n v = none := by
  unfold findT
  rw [h]
  simp only
  rw [if_neg hn]
theorem find_here {g : Nat → Nat} {N n v j : Nat} (h : findT g N j n v = none) (h1 : g j = n) (h2 : codeAt g N j = v) : findT g N (j + 1) n v = some j := by
  unfold findT
  rw [h]
  simp only
  rw [if_pos ⟨h1, h2⟩]
theorem find_none {g : Nat → Nat} {N n v : Nat} : ∀ {j}, (∀ i, i < j → ¬ (g i = n ∧ codeAt g N i = v)) → findT g N j n v = none
  | 0, _ => rfl
  | j + 1, h => find_next (find_none (fun i hi => h i (by omega))) (h j (by omega))
theorem rank_ex (g : Nat → Nat) (n r : Nat) : ∀ j, r < cT g j n → ∃ i, i < j ∧ g i = n ∧ n ≠ 0 ∧ cT g i n = r
  | 0, h => by simp [cT] at h
  | j + 1, h => by
    rw [cT_succ] at h
    by_cases c : r < cT g j n
    · obtain ⟨i, a, b⟩ := rank_ex g n r j c
      exact ⟨i, by omega, b⟩
    · by_cases d : g j = n ∧ n ≠ 0
      · rw [if_pos d] at h
        exact ⟨j, by omega, d.1, d.2, by omega⟩
      · rw [if_neg d] at h
        omega
theorem find_rank {g : Nat → Nat} {N n v : Nat} (h0 : fT g N n ≤ v) (h1 : v < fT g N n + cT g N n) : ∃ i, findT g N N n v = some i ∧ i < N ∧ g i = n ∧ n ≠ 0 ∧ fT g N n + cT g i n = v := by
  obtain ⟨i, a, b, c, d⟩ := rank_ex g n (v - fT g N n) N (by omega)
  cases hq : findT g N N n v with
  | none =>
    have hk := find_keep (j := i + 1) (i := i) (g := g) (N := N) (n := n) (v := v)
    exfalso
    cases hi : findT g N i n v with
    | some k => rw [find_keep hi N (by omega)] at hq; cases hq
    | none =>
      have h2 := find_here hi b (by rw [codeAt_pos (by omega), b]; omega)
      rw [find_keep h2 N (by omega)] at hq
      cases hq
  | some k =>
    obtain ⟨x, y, z⟩ := find_some hq
    rw [codeAt_pos (by omega), y] at z
    exact ⟨k, rfl, x, y, c, z⟩
theorem find_over {g : Nat → Nat} {N n v : Nat} (hn : n ≠ 0) (h : fT g N n + cT g N n ≤ v) : findT g N N n v = none := by
  apply find_none
  rintro i hi ⟨a, b⟩
  rw [codeAt_pos (by omega), a] at b
  have h1 := cT_mono g n (i + 1) N (by omega)
  rw [cT_succ, if_pos ⟨a, hn⟩] at h1
  omega

/-- What is told of bits: a symbol, if there is one; which bit is next then; whether bits were missing. -/
structure Out where
  v : Nat
  ok : Bool
  p : Nat
  bad : Bool
def decF (g : Nat → Nat) (N X L : Nat) : Nat → Nat → Nat → Nat → Out
  | 0, p, _, _ => ⟨0, false, p, false⟩
  | f + 1, p, n, v => if p < L then (match findT g N N (n + 1) (2 * v + bitN X p) with
      | some i => ⟨i, true, p + 1, false⟩
      | none => decF g N X L f (p + 1) (n + 1) (2 * v + bitN X p)) else ⟨0, false, p, true⟩
theorem dec_miss {g : Nat → Nat} {N X L f p n v : Nat} (h : ¬ p < L) : decF g N X L (f + 1) p n v = ⟨0, false, p, true⟩ := by
  unfold decF; rw [if_neg h]
theorem dec_hit {g : Nat → Nat} {N X L f p n v i : Nat} (h : p < L) (hf : findT g N N (n + 1) (2 * v + bitN X p) = some i) : decF g N X L (f + 1) p n v = ⟨i, true, p + 1, false⟩ := by
  unfold decF; rw [if_pos h, hf]
theorem dec_on {g : Nat → Nat} {N X L f p n v : Nat} (h : p < L) (hf : findT g N N (n + 1) (2 * v + bitN X p) = none) : decF g N X L (f + 1) p n v = decF g N X L f (p + 1) (n + 1) (2 * v + bitN X p) := by
  rw [decF, if_pos h, hf]
theorem dec_le (g : Nat → Nat) (N X L : Nat) : ∀ f p n v, p ≤ L → (decF g N X L f p n v).p ≤ L ∧ p ≤ (decF g N X L f p n v).p
  | 0, p, _, _, h => ⟨h, Nat.le_refl _⟩
  | f + 1, p, n, v, h => by
    by_cases c : p < L
    · cases hq : findT g N N (n + 1) (2 * v + bitN X p) with
      | some i => rw [dec_hit c hq]; exact ⟨c, by simp⟩
      | none =>
        rw [dec_on c hq]
        have := dec_le g N X L f (p + 1) (n + 1) (2 * v + bitN X p) c
        exact ⟨this.1, by omega⟩
    · rw [dec_miss c]; exact ⟨h, Nat.le_refl _⟩
/-- Where bits were missing, or no code was found, there is no symbol. -/
theorem dec_bad (g : Nat → Nat) (N X L : Nat) : ∀ f p n v, (decF g N X L f p n v).bad = true → (decF g N X L f p n v).ok = false
  | 0, _, _, _, h => by simp [decF] at h
  | f + 1, p, n, v, h => by
    by_cases c : p < L
    · cases hq : findT g N N (n + 1) (2 * v + bitN X p) with
      | some i => rw [dec_hit c hq] at h; cases h
      | none => rw [dec_on c hq] at h ⊢; exact dec_bad g N X L f _ _ _ h
    · rw [dec_miss c]

/-- Which of the first j symbols have a code of length n, as they rise. -/
def pick (g : Nat → Nat) : Nat → Nat → List Nat
  | 0, _ => []
  | j + 1, n => if g j = n ∧ n ≠ 0 then pick g j n ++ [j] else pick g j n
theorem pick_length (g : Nat → Nat) (n : Nat) : ∀ j, (pick g j n).length = cT g j n
  | 0 => rfl
  | j + 1 => by
    rw [cT_succ]
    unfold pick
    by_cases c : g j = n ∧ n ≠ 0
    · rw [if_pos c, if_pos c, List.length_append, pick_length g n j]; rfl
    · rw [if_neg c, if_neg c, pick_length g n j]; rfl
theorem pick_at (g : Nat → Nat) (n i : Nat) (hg : g i = n) (hn : n ≠ 0) : ∀ j, i < j → (pick g j n)[cT g i n]? = some i
  | 0, h => by omega
  | j + 1, h => by
    by_cases e : i = j
    · subst e
      unfold pick
      rw [if_pos ⟨hg, hn⟩, List.getElem?_append_right (by rw [pick_length]; exact Nat.le_refl _), pick_length, Nat.sub_self]
      rfl
    · have ih := pick_at g n i hg hn j (by omega)
      have hl : cT g i n < (pick g j n).length := by
        rw [pick_length]
        have := cT_mono g n (i + 1) j (by omega)
        rw [cT_succ, if_pos ⟨hg, hn⟩] at this
        omega
      unfold pick
      split
      · rw [List.getElem?_append_left hl]; exact ih
      · exact ih
/-- The symbols of codes of at most k bits: by their lengths, and as they rise. -/
def syT (g : Nat → Nat) (N : Nat) : Nat → List Nat
  | 0 => []
  | k + 1 => syT g N k ++ pick g N (k + 1)
/-- How many these are. -/
def aT (g : Nat → Nat) (N : Nat) : Nat → Nat
  | 0 => 0
  | k + 1 => aT g N k + cT g N (k + 1)
theorem syT_length (g : Nat → Nat) (N : Nat) : ∀ k, (syT g N k).length = aT g N k
  | 0 => rfl
  | k + 1 => by
    show (syT g N k ++ pick g N (k + 1)).length = aT g N k + cT g N (k + 1)
    rw [List.length_append, syT_length g N k, pick_length]
theorem aT_mono (g : Nat → Nat) (N j : Nat) : ∀ k, j ≤ k → aT g N j ≤ aT g N k
  | 0, h => by obtain rfl : j = 0 := by omega
               exact Nat.le_refl _
  | k + 1, h => by
    by_cases e : j = k + 1
    · rw [e]; exact Nat.le_refl _
    · have := aT_mono g N j k (by omega)
      show aT g N j ≤ aT g N k + cT g N (k + 1)
      omega
theorem aT_le (g : Nat → Nat) (N : Nat) : ∀ k, aT g N k ≤ k * N
  | 0 => by simp [aT]
  | k + 1 => by
    have h1 := aT_le g N k
    have h2 := cT_le g (k + 1) N
    show aT g N k + cT g N (k + 1) ≤ _
    rw [Nat.add_mul]
    omega
theorem sy_at (g : Nat → Nat) (N n i : Nat) (hg : g i = n + 1) (hi : i < N) : ∀ k, n + 1 ≤ k → (syT g N k)[aT g N n + cT g i (n + 1)]? = some i
  | 0, h => by omega
  | k + 1, h => by
    have hc : cT g i (n + 1) < cT g N (n + 1) := by
      have := cT_mono g (n + 1) (i + 1) N (by omega)
      rw [cT_succ, if_pos ⟨hg, by omega⟩] at this
      omega
    show (syT g N k ++ pick g N (k + 1))[_]? = _
    by_cases e : n = k
    · subst e
      rw [List.getElem?_append_right (by rw [syT_length]; omega), syT_length, Nat.add_sub_cancel_left]
      exact pick_at g (n + 1) i hg (by omega) N hi
    · have hl : aT g N n + cT g i (n + 1) < (syT g N k).length := by
        rw [syT_length]
        have h2 := aT_mono g N (n + 1) k (by omega)
        have h3 : aT g N (n + 1) = aT g N n + cT g N (n + 1) := rfl
        omega
      rw [List.getElem?_append_left hl]
      exact sy_at g N n i hg hi k (by omega)
end Go.Proofs.Huf
