/- Plain mathematics of noughts: a shift by powers of two; sums of two texts, one behind the other; sums of texts, exclusive-or; one byte that is another one. -/
import Derived.Test.YthgjijjalfhhcabDoorSumM
namespace Go.Proofs.Crc

theorem stp_lt (s : Nat) (h : s < 2 ^ 32) : stp s < 2 ^ 32 := bit_lt s 0 h
theorem stps_lt (s k : Nat) (h : s < 2 ^ 32) : stps s k < 2 ^ 32 := by
  induction k with
  | zero => exact h
  | succ k ih => exact stp_lt _ ih

/-- The state behind m bytes 0. -/
def nuls (s m : Nat) : Nat := stps s (8 * m)

theorem nuls_zero (s : Nat) : nuls s 0 = s := rfl
theorem nuls_lt (s m : Nat) (h : s < 2 ^ 32) : nuls s m < 2 ^ 32 := stps_lt s _ h
theorem nuls_add (s a b : Nat) : nuls s (a + b) = nuls (nuls s a) b := by
  unfold nuls; rw [Nat.mul_add, stps_add]
theorem nuls_xor (a b m : Nat) : nuls (a ^^^ b) m = nuls a m ^^^ nuls b m := stps_xor a b _
theorem nuls_of_zero (m : Nat) : nuls 0 m = 0 := stps_zero _
theorem byte_nul (s : Nat) : byteN s 0 = nuls s 1 := by
  rw [byte_stps s 0 (by decide), Nat.xor_zero]; rfl
theorem nuls_succ (s m : Nat) : nuls s (m + 1) = byteN (nuls s m) 0 := by rw [nuls_add, byte_nul]

/-- A bit alone, behind m bytes 0. -/
def bitAt (m j : Nat) : Nat := nuls (2 ^ j) m

/-- The lowest k bits of a state, behind m bytes 0. -/
def low (s m k : Nat) : Nat := nuls (s % 2 ^ k) m

theorem mod_next (s k : Nat) : s % 2 ^ (k + 1) = (if s / 2 ^ k % 2 = 1 then (s % 2 ^ k) ^^^ 2 ^ k else s % 2 ^ k) := by
  apply Nat.eq_of_testBit_eq
  intro i
  have hb : s.testBit k = decide (s / 2 ^ k % 2 = 1) := by rw [Nat.testBit_eq_decide_div_mod_eq]
  by_cases h : s / 2 ^ k % 2 = 1
  · rw [if_pos h, Nat.testBit_mod_two_pow, Nat.testBit_xor, Nat.testBit_mod_two_pow, Nat.testBit_two_pow]
    rw [decide_eq_true h] at hb
    by_cases e : k = i
    · subst e; simp [hb]
    · have e1 : decide (i < k + 1) = decide (i < k) := by
        by_cases h2 : i < k
        · have h3 : i < k + 1 := by omega
          simp [h2, h3]
        · have h3 : ¬ i < k + 1 := by omega
          simp [h2, h3]
      simp [e, e1]
  · rw [if_neg h, Nat.testBit_mod_two_pow, Nat.testBit_mod_two_pow]
    rw [decide_eq_false h] at hb
    by_cases e : k = i
    · subst e; simp [hb]
    · have e1 : decide (i < k + 1) = decide (i < k) := by
        by_cases h2 : i < k
        · have h3 : i < k + 1 := by omega
          simp [h2, h3]
        · have h3 : ¬ i < k + 1 := by omega
          simp [h2, h3]
      rw [e1]

theorem low_yes (s m k : Nat) (h : s / 2 ^ k % 2 = 1) : low s m (k + 1) = low s m k ^^^ bitAt m k := by
  unfold low bitAt
  rw [mod_next, if_pos h, nuls_xor]
theorem low_no (s m k : Nat) (h : ¬ s / 2 ^ k % 2 = 1) : low s m (k + 1) = low s m k := by
  unfold low
  rw [mod_next, if_neg h]
theorem low_zero (s m : Nat) : low s m 0 = 0 := by
  unfold low; rw [Nat.pow_zero, Nat.mod_one, nuls_of_zero]
theorem low_all (s m : Nat) (h : s < 2 ^ 32) : low s m 32 = nuls s m := by
  unfold low; rw [Nat.mod_eq_of_lt h]

theorem bitAt_twice (m j : Nat) : nuls (bitAt m j) m = bitAt (2 * m) j := by
  unfold bitAt
  rw [← nuls_add, Nat.two_mul]

/-- The state when r powers of two have been gone by. -/
def gone (s n r : Nat) : Nat := nuls s (n % 2 ^ r)

theorem gone_yes (s n r : Nat) (h : n / 2 ^ r % 2 = 1) : nuls (gone s n r) (2 ^ r) = gone s n (r + 1) := by
  unfold gone
  rw [← nuls_add]
  congr 1
  have e : n % 2 ^ (r + 1) = n % 2 ^ r + 2 ^ r * (n / 2 ^ r % 2) := by
    rw [Nat.pow_succ, Nat.mod_mul]
  rw [e, h, Nat.mul_one]
theorem gone_no (s n r : Nat) (h : ¬ n / 2 ^ r % 2 = 1) : gone s n r = gone s n (r + 1) := by
  unfold gone
  have e : n % 2 ^ (r + 1) = n % 2 ^ r + 2 ^ r * (n / 2 ^ r % 2) := by
    rw [Nat.pow_succ, Nat.mod_mul]
  have h0 : n / 2 ^ r % 2 = 0 := by omega
  rw [e, h0, Nat.mul_zero, Nat.add_zero]
theorem gone_zero (s n : Nat) : gone s n 0 = s := by
  unfold gone; rw [Nat.pow_zero, Nat.mod_one, nuls_zero]
theorem gone_end (s n r : Nat) (h : n / 2 ^ r = 0) : gone s n r = nuls s n := by
  unfold gone
  have hp : 0 < 2 ^ r := Nat.two_pow_pos r
  rw [Nat.mod_eq_of_lt ((Nat.div_eq_zero_iff_lt hp).1 h)]

/-- A text goes into two states, exclusive-or. -/
theorem byte_xor (a b x y : Nat) (hx : x < 256) (hy : y < 256) : byteN (a ^^^ b) (x ^^^ y) = byteN a x ^^^ byteN b y := by
  rw [byte_stps _ _ (Nat.xor_lt_two_pow (n := 8) (by omega) (by omega)), byte_stps _ _ hx, byte_stps _ _ hy, ← stps_xor, xor4]

theorem feed_nuls (a : Nat) (l : List UInt8) : feedN a l = nuls a l.length ^^^ feedN 0 l := by
  induction l generalizing a with
  | nil => simp [feedN, nuls_zero]
  | cons c l ih =>
    have hc : c.toNat < 256 := UInt8.toNat_lt c
    have e : feedN a (c :: l) = feedN (byteN a c.toNat) l := rfl
    have e0 : feedN 0 (c :: l) = feedN (byteN 0 c.toNat) l := rfl
    rw [e, e0, ih (byteN a c.toNat), ih (byteN 0 c.toNat)]
    have h : byteN a c.toNat = byteN a 0 ^^^ byteN 0 c.toNat := by
      rw [← byte_xor a 0 0 c.toNat (by decide) hc, Nat.xor_zero, Nat.zero_xor]
    rw [h, nuls_xor, byte_nul, List.length_cons, Nat.add_comm, nuls_add, Nat.xor_assoc]

end Go.Proofs.Crc
