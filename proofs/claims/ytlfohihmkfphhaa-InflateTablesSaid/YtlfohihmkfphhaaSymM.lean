/- MATHEMATICS of codes with bits behind them: where each code's numbers begin. It imports nothing of the program. -/
namespace Go.Proofs.Sym

/-- How many bits stand behind the code at a place. -/
def wide (e p : Nat) : Nat := p / e - 1
/-- The first number of the code at a place. -/
def beg (b e : Nat) : Nat → Nat
  | 0 => b
  | p + 1 => beg b e p + 2 ^ wide e p

theorem beg_succ (b e p : Nat) : beg b e (p + 1) = beg b e p + 2 ^ wide e p := rfl
theorem beg_lt (b e p : Nat) : beg b e p < beg b e (p + 1) := by
  rw [beg_succ]; have := Nat.pow_pos (n := wide e p) (show 0 < 2 by decide); omega
theorem beg_le (b e p : Nat) : ∀ q, p ≤ q → beg b e p ≤ beg b e q
  | 0, h => by obtain rfl : p = 0 := by omega
               exact Nat.le_refl _
  | q + 1, h => by
    by_cases c : p = q + 1
    · rw [c]; exact Nat.le_refl _
    · exact Nat.le_trans (beg_le b e p q (by omega)) (Nat.le_of_lt (beg_lt b e q))

/-- A number is one of the code at a place. -/
def At (b e m : Nat) (n : Int) (p : Nat) : Prop := p < m ∧ (beg b e p : Int) ≤ n ∧ n < (beg b e (p + 1) : Int)

theorem at_or (b e : Nat) (n : Int) : ∀ m, n < (b : Int) ∨ (beg b e m : Int) ≤ n ∨ ∃ p, At b e m n p
  | 0 => by
    by_cases h : n < (b : Int)
    · exact .inl h
    · exact .inr (.inl (by simp only [beg]; omega))
  | m + 1 => by
    rcases at_or b e n m with h | h | ⟨p, h1, h2⟩
    · exact .inl h
    · by_cases c : (beg b e (m + 1) : Int) ≤ n
      · exact .inr (.inl c)
      · exact .inr (.inr ⟨m, by omega, h, by omega⟩)
    · exact .inr (.inr ⟨p, by omega, h2⟩)

theorem at_lo {b e m : Nat} {n : Int} {p : Nat} (h : At b e m n p) : (b : Int) ≤ n := by
  have := beg_le b e 0 p (by omega)
  have e0 : beg b e 0 = b := rfl
  obtain ⟨h0, h1, h2⟩ := h
  omega
theorem at_hi {b e m : Nat} {n : Int} {p : Nat} (h : At b e m n p) : n < (beg b e m : Int) := by
  obtain ⟨h0, h1, h2⟩ := h
  have := beg_le b e (p + 1) m (by omega)
  omega
theorem at_lt {b e m : Nat} {n : Int} {p q : Nat} (h : At b e m n p) (hq : (beg b e q : Int) ≤ n) : q ≤ p := by
  by_cases c : q ≤ p
  · exact c
  · obtain ⟨h0, h1, h2⟩ := h
    have := beg_le b e (p + 1) q (by omega)
    omega
theorem at_one {b e m : Nat} {n : Int} {p q : Nat} (h : At b e m n p) (h' : At b e m n q) : p = q := by
  have a := at_lt h h'.2.1
  have b := at_lt h' h.2.1
  omega

/-- What is told of a length: its code, how many bits, the number in them; or that it has none. -/
def IsLong (n c k m : Int) (ok : Bool) : Prop :=
  (n = 258 ∧ c = 285 ∧ k = 0 ∧ m = 0 ∧ ok = true) ∨
  (n ≠ 258 ∧ ∃ p, At 3 4 28 n p ∧ c = 257 + (p : Int) ∧ k = (wide 4 p : Int) ∧ m = n - (beg 3 4 p : Int) ∧ ok = true) ∨
  ((n < 3 ∨ 258 < n) ∧ c = 0 ∧ k = 0 ∧ m = 0 ∧ ok = false)

theorem beg_longs : beg 3 4 28 = 259 := by decide +kernel
theorem beg_backs : beg 1 2 30 = 32769 := by decide +kernel

theorem long_ex (n : Int) : ∃ c k m ok, IsLong n c k m ok := by
  by_cases h : n = 258
  · exact ⟨285, 0, 0, true, .inl ⟨h, rfl, rfl, rfl, rfl⟩⟩
  · rcases at_or 3 4 n 28 with a | a | ⟨p, a⟩
    · exact ⟨0, 0, 0, false, .inr (.inr ⟨.inl (by omega), rfl, rfl, rfl, rfl⟩)⟩
    · rw [beg_longs] at a
      exact ⟨0, 0, 0, false, .inr (.inr ⟨.inr (by omega), rfl, rfl, rfl, rfl⟩)⟩
    · exact ⟨_, _, _, true, .inr (.inl ⟨h, p, a, rfl, rfl, rfl, rfl⟩)⟩

theorem long_fn {n c k m c' k' m' : Int} {ok ok' : Bool} (h : IsLong n c k m ok) (h' : IsLong n c' k' m' ok') : c = c' ∧ k = k' ∧ m = m' ∧ ok = ok' := by
  have hi := beg_longs
  rcases h with ⟨a, rfl, rfl, rfl, rfl⟩ | ⟨a, p, hp, rfl, rfl, rfl, rfl⟩ | ⟨a, rfl, rfl, rfl, rfl⟩ <;> rcases h' with ⟨a', rfl, rfl, rfl, rfl⟩ | ⟨a', p', hp', rfl, rfl, rfl, rfl⟩ | ⟨a', rfl, rfl, rfl, rfl⟩
  · exact ⟨rfl, rfl, rfl, rfl⟩
  · exact absurd a a'
  · omega
  · exact absurd a' a
  · obtain rfl := at_one hp hp'
    exact ⟨rfl, rfl, rfl, rfl⟩
  · have h1 := at_lo hp
    have h2 := at_hi hp
    rw [hi] at h2
    omega
  · omega
  · have h1 := at_lo hp'
    have h2 := at_hi hp'
    rw [hi] at h2
    omega
  · exact ⟨rfl, rfl, rfl, rfl⟩

theorem long_bd {n c k m : Int} (h : IsLong n c k m true) : 3 ≤ n ∧ n ≤ 258 ∧ 257 ≤ c ∧ c ≤ 285 ∧ 0 ≤ m ∧ m ≤ n ∧ 0 ≤ k ∧ k ≤ 28 := by
  have hi := beg_longs
  rcases h with ⟨rfl, rfl, rfl, rfl, _⟩ | ⟨a, p, hp, rfl, rfl, rfl, _⟩ | ⟨_, _, _, _, h⟩
  · omega
  · have h1 := at_lo hp
    have h2 := at_hi hp
    have h3 : wide 4 p ≤ p := by unfold wide; omega
    obtain ⟨h4, h5, h6⟩ := hp
    omega
  · cases h
theorem long_no {n c k m : Int} (h : IsLong n c k m false) : (n < 3 ∨ 258 < n) ∧ c = 0 ∧ k = 0 ∧ m = 0 := by
  rcases h with ⟨_, _, _, _, h⟩ | ⟨_, _, _, _, _, _, h⟩ | ⟨a, b, c, d, _⟩
  · cases h
  · cases h
  · exact ⟨a, b, c, d⟩
theorem long_yes {n : Int} (h1 : 3 ≤ n) (h2 : n ≤ 258) : ∃ c k m, IsLong n c k m true := by
  obtain ⟨c, k, m, ok, h⟩ := long_ex n
  cases ok with
  | true => exact ⟨c, k, m, h⟩
  | false => have := (long_no h).1; omega

/-- A code's place says the number. -/
theorem long_inj {x y c m k k' : Int} (h : IsLong x c k m true) (h' : IsLong y c k' m true) : x = y ∧ k = k' := by
  rcases h with ⟨rfl, rfl, rfl, rfl, _⟩ | ⟨a, p, hp, rfl, rfl, rfl, _⟩ | ⟨_, _, _, _, h⟩
  · rcases h' with ⟨rfl, _, rfl, _, _⟩ | ⟨a', p', hp', e1, rfl, e2, _⟩ | ⟨_, _, _, _, h⟩
    · exact ⟨rfl, rfl⟩
    · have := hp'.1; omega
    · cases h
  · rcases h' with ⟨rfl, e1, rfl, e2, _⟩ | ⟨a', p', hp', e1, rfl, e2, _⟩ | ⟨_, _, _, _, h⟩
    · have := hp.1; omega
    · obtain rfl : p = p' := by omega
      exact ⟨by omega, rfl⟩
    · cases h
  · cases h
theorem long_bits {x y c m m' k k' : Int} (h : IsLong x c k m true) (h' : IsLong y c k' m' true) : k = k' := by
  rcases h with ⟨rfl, rfl, rfl, rfl, _⟩ | ⟨a, p, hp, rfl, rfl, rfl, _⟩ | ⟨_, _, _, _, h⟩
  · rcases h' with ⟨rfl, _, rfl, _, _⟩ | ⟨a', p', hp', e1, rfl, e2, _⟩ | ⟨_, _, _, _, h⟩
    · rfl
    · have := hp'.1; omega
    · cases h
  · rcases h' with ⟨rfl, e1, rfl, e2, _⟩ | ⟨a', p', hp', e1, rfl, e2, _⟩ | ⟨_, _, _, _, h⟩
    · have := hp.1; omega
    · obtain rfl : p = p' := by omega
      rfl
    · cases h
  · cases h
/-- At each place but the last one there is a number that isn't 258. -/
theorem long_at {p : Nat} (h : p < 28) : ∃ x m, IsLong x (257 + (p : Int)) (wide 4 p : Int) m true := by
  refine ⟨(beg 3 4 p : Int), 0, .inr (.inl ⟨?_, p, ⟨h, Int.le_refl _, by have := beg_lt 3 4 p; omega⟩, rfl, rfl, by omega, rfl⟩)⟩
  have h1 := beg_le 3 4 p 27 (by omega)
  have h2 : beg 3 4 27 = 227 := by decide +kernel
  omega

/-- What is told of a code and the number behind it: the length. -/
def IsLongOf (c m x : Int) (ok : Bool) : Prop := (∃ k, IsLong x c k m true ∧ ok = true) ∨ ((∀ y k, ¬ IsLong y c k m true) ∧ x = 0 ∧ ok = false)
theorem longOf_ex (c m : Int) : ∃ x ok, IsLongOf c m x ok := by
  by_cases h : ∃ y k, IsLong y c k m true
  · obtain ⟨y, k, h⟩ := h
    exact ⟨y, true, .inl ⟨k, h, rfl⟩⟩
  · exact ⟨0, false, .inr ⟨fun y k hk => h ⟨y, k, hk⟩, rfl, rfl⟩⟩
/-- What is told of a code: how many bits stand behind it. -/
def IsLongBits (c k : Int) : Prop := (∃ x m, IsLong x c k m true) ∨ ((∀ x k' m, ¬ IsLong x c k' m true) ∧ k = -1)
theorem longBits_ex (c : Int) : ∃ k, IsLongBits c k := by
  by_cases h : ∃ k x m, IsLong x c k m true
  · obtain ⟨k, x, m, h⟩ := h
    exact ⟨k, .inl ⟨x, m, h⟩⟩
  · exact ⟨-1, .inr ⟨fun x k m hk => h ⟨k, x, m, hk⟩, rfl⟩⟩
theorem longBits_bd {c k : Int} (h : IsLongBits c k) : -1 ≤ k ∧ k ≤ 28 := by
  rcases h with ⟨x, m, h⟩ | ⟨_, rfl⟩
  · have := long_bd h; omega
  · omega
theorem longBits_285 {k : Int} (h : IsLongBits 285 k) : k = 0 := by
  have h1 : IsLong 258 285 0 0 true := .inl ⟨rfl, rfl, rfl, rfl, rfl⟩
  rcases h with ⟨x, m, h⟩ | ⟨h, _⟩
  · exact long_bits h h1
  · exact absurd h1 (h _ _ _)
theorem longBits_at {p : Nat} {k : Int} (hp : p < 28) (h : IsLongBits (257 + (p : Int)) k) : k = (wide 4 p : Int) := by
  obtain ⟨x', m', h1⟩ := long_at hp
  rcases h with ⟨x, m, h⟩ | ⟨h, _⟩
  · exact long_bits h h1
  · exact absurd h1 (h _ _ _)
theorem longBits_none {c k : Int} (hc : c < 257 ∨ 285 < c) (h : IsLongBits c k) : k = -1 := by
  rcases h with ⟨x, m, h⟩ | ⟨_, h⟩
  · have := long_bd h; omega
  · exact h

/-- What is told of a distance. -/
def IsBack (n c k m : Int) (ok : Bool) : Prop :=
  (∃ p, At 1 2 30 n p ∧ c = (p : Int) ∧ k = (wide 2 p : Int) ∧ m = n - (beg 1 2 p : Int) ∧ ok = true) ∨ ((n < 1 ∨ 32768 < n) ∧ c = 0 ∧ k = 0 ∧ m = 0 ∧ ok = false)
theorem back_ex (n : Int) : ∃ c k m ok, IsBack n c k m ok := by
  rcases at_or 1 2 n 30 with a | a | ⟨p, a⟩
  · exact ⟨0, 0, 0, false, .inr ⟨.inl (by omega), rfl, rfl, rfl, rfl⟩⟩
  · rw [beg_backs] at a
    exact ⟨0, 0, 0, false, .inr ⟨.inr (by omega), rfl, rfl, rfl, rfl⟩⟩
  · exact ⟨_, _, _, true, .inl ⟨p, a, rfl, rfl, rfl, rfl⟩⟩
theorem back_fn {n c k m c' k' m' : Int} {ok ok' : Bool} (h : IsBack n c k m ok) (h' : IsBack n c' k' m' ok') : c = c' ∧ k = k' ∧ m = m' ∧ ok = ok' := by
  have hi := beg_backs
  rcases h with ⟨p, hp, rfl, rfl, rfl, rfl⟩ | ⟨a, rfl, rfl, rfl, rfl⟩ <;> rcases h' with ⟨p', hp', rfl, rfl, rfl, rfl⟩ | ⟨a', rfl, rfl, rfl, rfl⟩
  · obtain rfl := at_one hp hp'
    exact ⟨rfl, rfl, rfl, rfl⟩
  · have h1 := at_lo hp
    have h2 := at_hi hp
    rw [hi] at h2
    omega
  · have h1 := at_lo hp'
    have h2 := at_hi hp'
    rw [hi] at h2
    omega
  · exact ⟨rfl, rfl, rfl, rfl⟩
theorem back_bd {n c k m : Int} (h : IsBack n c k m true) : 1 ≤ n ∧ n ≤ 32768 ∧ 0 ≤ c ∧ c ≤ 29 ∧ 0 ≤ m ∧ m ≤ n ∧ 0 ≤ k ∧ k ≤ 29 := by
  have hi := beg_backs
  rcases h with ⟨p, hp, rfl, rfl, rfl, _⟩ | ⟨_, _, _, _, h⟩
  · have h1 := at_lo hp
    have h2 := at_hi hp
    have h3 : wide 2 p ≤ p := by unfold wide; omega
    obtain ⟨h4, h5, h6⟩ := hp
    omega
  · cases h
theorem back_no {n c k m : Int} (h : IsBack n c k m false) : (n < 1 ∨ 32768 < n) ∧ c = 0 ∧ k = 0 ∧ m = 0 := by
  rcases h with ⟨_, _, _, _, _, h⟩ | ⟨a, b, c, d, _⟩
  · cases h
  · exact ⟨a, b, c, d⟩
theorem back_yes {n : Int} (h1 : 1 ≤ n) (h2 : n ≤ 32768) : ∃ c k m, IsBack n c k m true := by
  obtain ⟨c, k, m, ok, h⟩ := back_ex n
  cases ok with
  | true => exact ⟨c, k, m, h⟩
  | false => have := (back_no h).1; omega
theorem back_inj {x y c m k k' : Int} (h : IsBack x c k m true) (h' : IsBack y c k' m true) : x = y ∧ k = k' := by
  rcases h with ⟨p, hp, rfl, rfl, rfl, _⟩ | ⟨_, _, _, _, h⟩
  · rcases h' with ⟨p', hp', e1, rfl, e2, _⟩ | ⟨_, _, _, _, h⟩
    · obtain rfl : p = p' := by omega
      exact ⟨by omega, rfl⟩
    · cases h
  · cases h
/-- What is told of a distance's code: how many bits. -/
def backBits (c : Int) : Int := if c < 0 ∨ 29 < c then -1 else (wide 2 c.toNat : Int)
theorem back_k {n c k m : Int} (h : IsBack n c k m true) : k = backBits c := by
  rcases h with ⟨p, hp, rfl, rfl, rfl, _⟩ | ⟨_, _, _, _, h⟩
  · unfold backBits; rw [if_neg (by have := hp.1; omega), Int.toNat_natCast]
  · cases h
def IsBackOf (c m x : Int) (ok : Bool) : Prop := (∃ k, IsBack x c k m true ∧ ok = true) ∨ ((∀ y k, ¬ IsBack y c k m true) ∧ x = 0 ∧ ok = false)
theorem backOf_ex (c m : Int) : ∃ x ok, IsBackOf c m x ok := by
  by_cases h : ∃ y k, IsBack y c k m true
  · obtain ⟨y, k, h⟩ := h
    exact ⟨y, true, .inl ⟨k, h, rfl⟩⟩
  · exact ⟨0, false, .inr ⟨fun y k hk => h ⟨y, k, hk⟩, rfl, rfl⟩⟩
end Go.Proofs.Sym
