/-
  Plain mathematics of the sums of bytes: a bit, a byte, a text goes into a state of 32 bits; all of it is linear over exclusive-or, and no two states go to one.
-/
import Derived.Laws.BitsLemmas
namespace Go.Proofs.Crc

def poly : Nat := 3988292384

/-- A bit goes into a state. -/
def bitN (s b : Nat) : Nat := if (s + b) % 2 = 1 then (s / 2) ^^^ poly else s / 2

/-- The first k bits of a byte. -/
def bitsN (s b : Nat) : Nat → Nat
  | 0 => s
  | k + 1 => bitN (bitsN s b k) (b / 2 ^ k % 2)

def byteN (s b : Nat) : Nat := bitsN s b 8

def feedN (s : Nat) (l : List UInt8) : Nat := l.foldl (fun s c => byteN s c.toNat) s

/-- A step without a bit. -/
def stp (s : Nat) : Nat := bitN s 0

def stps (s : Nat) : Nat → Nat
  | 0 => s
  | k + 1 => stp (stps s k)

theorem half_xor (a b : Nat) : (a ^^^ b) / 2 = a / 2 ^^^ b / 2 := by
  apply Nat.eq_of_testBit_eq
  intro i
  simp [Nat.testBit_xor, Nat.testBit_div_two]

theorem odd_xor (a b : Nat) : (a ^^^ b) % 2 = (a + b) % 2 := by
  have h := Nat.testBit_xor a b 0
  simp only [Nat.testBit_zero] at h
  have ha : a % 2 = 0 ∨ a % 2 = 1 := by omega
  have hb : b % 2 = 0 ∨ b % 2 = 1 := by omega
  have hx : (a ^^^ b) % 2 = 0 ∨ (a ^^^ b) % 2 = 1 := by omega
  rcases ha with ha | ha <;> rcases hb with hb | hb <;> rcases hx with hx | hx <;> simp [ha, hb, hx] at h ⊢ <;> omega

theorem xor4 (a b c d : Nat) : (a ^^^ b) ^^^ (c ^^^ d) = (a ^^^ c) ^^^ (b ^^^ d) := by
  apply Nat.eq_of_testBit_eq
  intro i
  simp only [Nat.testBit_xor]
  cases a.testBit i <;> cases b.testBit i <;> cases c.testBit i <;> cases d.testBit i <;> rfl

/-- A step is linear. -/
theorem stp_xor (a b : Nat) : stp (a ^^^ b) = stp a ^^^ stp b := by
  unfold stp bitN
  have h := odd_xor a b
  simp only [Nat.add_zero, half_xor]
  have ha : a % 2 = 0 ∨ a % 2 = 1 := by omega
  have hb : b % 2 = 0 ∨ b % 2 = 1 := by omega
  rcases ha with ha | ha <;> rcases hb with hb | hb
  · have e : (a ^^^ b) % 2 = 0 := by omega
    simp [ha, hb, e]
  · have e : (a ^^^ b) % 2 = 1 := by omega
    simp [ha, hb, e, Nat.xor_assoc]
  · have e : (a ^^^ b) % 2 = 1 := by omega
    simp [ha, hb, e]
    rw [Nat.xor_assoc, Nat.xor_comm (b / 2), ← Nat.xor_assoc]
  · have e : (a ^^^ b) % 2 = 0 := by omega
    simp [ha, hb, e]
    rw [xor4, Nat.xor_self, Nat.xor_zero]

theorem stps_xor (a b k : Nat) : stps (a ^^^ b) k = stps a k ^^^ stps b k := by
  induction k with
  | zero => rfl
  | succ k ih => simp [stps, ih, stp_xor]

theorem stp_zero : stp 0 = 0 := by decide
theorem stps_zero (k : Nat) : stps 0 k = 0 := by
  induction k with
  | zero => rfl
  | succ k ih => simp [stps, ih, stp_zero]

theorem stps_add (s a b : Nat) : stps s (a + b) = stps (stps s a) b := by
  induction b with
  | zero => rfl
  | succ b ih => rw [← Nat.add_assoc]; simp [stps, ih]

/-- A step of an even number: half of it. -/
theorem stp_even (x : Nat) (h : x % 2 = 0) : stp x = x / 2 := by
  unfold stp bitN
  simp [h]

theorem stps_pow (x k : Nat) : stps (2 ^ k * x) k = x := by
  induction k generalizing x with
  | zero => simp [stps]
  | succ k ih =>
    have e : 2 ^ (k + 1) * x = 2 ^ k * (2 * x) := by rw [Nat.pow_succ, Nat.mul_assoc]
    rw [e]; simp only [stps]; rw [ih, stp_even _ (by omega)]; omega

/-- A bit that goes in is a step of the state with that bit put in below. -/
theorem bit_stp (s b : Nat) (hb : b < 2) : bitN s b = stp (s ^^^ b) := by
  unfold stp bitN
  have h := odd_xor s b
  have e : (s ^^^ b) / 2 = s / 2 := by
    rw [half_xor]
    have : b / 2 = 0 := by omega
    rw [this, Nat.xor_zero]
  rw [e, Nat.add_zero, h]

/-- k bits of b, and what is left of b put in below. -/
theorem bits_stps (s b : Nat) (k : Nat) : stps (s ^^^ b) k = bitsN s b k ^^^ (b / 2 ^ k) := by
  induction k with
  | zero => simp [stps, bitsN]
  | succ k ih =>
    simp only [stps, bitsN]
    rw [ih, bit_stp _ _ (by omega)]
    have e : b / 2 ^ k = (b / 2 ^ k % 2) ^^^ (2 * (b / 2 ^ (k + 1))) := by
      have e1 : b / 2 ^ (k + 1) = b / 2 ^ k / 2 := by rw [Nat.pow_succ, Nat.div_div_eq_div_mul]
      rw [e1]
      apply Nat.eq_of_testBit_eq
      intro i
      rw [Nat.testBit_xor]
      cases i with
      | zero => simp [Nat.testBit_zero]
      | succ i =>
        simp only [Nat.testBit_succ]
        have a1 : b / 2 ^ k % 2 / 2 = 0 := by omega
        have a2 : 2 * (b / 2 ^ k / 2) / 2 = b / 2 ^ k / 2 := by omega
        rw [a1, a2]; simp
    have h2 : stp (2 * (b / 2 ^ (k + 1))) = b / 2 ^ (k + 1) := by rw [stp_even _ (by omega)]; omega
    rw [← h2, ← stp_xor, Nat.xor_assoc, ← e]

theorem byte_stps (s b : Nat) (hb : b < 256) : byteN s b = stps (s ^^^ b) 8 := by
  have h := bits_stps s b 8
  have e : b / 2 ^ 8 = 0 := by omega
  rw [h, e, Nat.xor_zero]; rfl

theorem split8 (s : Nat) : s = (s % 256) ^^^ (2 ^ 8 * (s / 256)) := by
  apply Nat.eq_of_testBit_eq
  intro i
  rw [Nat.testBit_xor, show (256 : Nat) = 2 ^ 8 from rfl, Nat.testBit_mod_two_pow, Nat.testBit_two_pow_mul, Nat.testBit_div_two_pow]
  by_cases h : i < 8
  · have h' : ¬ 8 ≤ i := by omega
    simp [h, h']
  · simp [h]
    have : 8 ≤ i := by omega
    simp [this]

/-- The table's way: a byte of the state and the byte, looked up; the rest of the state goes right by 8. -/
theorem byte_table (s b : Nat) (hb : b < 256) : byteN s b = byteN 0 ((s % 256) ^^^ b) ^^^ (s / 256) := by
  have hx : (s % 256) ^^^ b < 256 := Nat.xor_lt_two_pow (n := 8) (by omega) (by omega)
  rw [byte_stps s b hb, byte_stps 0 _ hx, Nat.zero_xor]
  have e : s ^^^ b = ((s % 256) ^^^ b) ^^^ (2 ^ 8 * (s / 256)) := by
    rw [Nat.xor_assoc, Nat.xor_comm b, ← Nat.xor_assoc, ← split8]
  rw [e, stps_xor, stps_pow]

theorem poly_lt : poly < 2 ^ 32 := by decide

theorem bit_lt (s b : Nat) (h : s < 2 ^ 32) : bitN s b < 2 ^ 32 := by
  unfold bitN
  split
  · exact Nat.xor_lt_two_pow (by omega) poly_lt
  · omega

theorem bits_lt (s b k : Nat) (h : s < 2 ^ 32) : bitsN s b k < 2 ^ 32 := by
  induction k with
  | zero => exact h
  | succ k ih => exact bit_lt _ _ ih

theorem byte_lt (s b : Nat) (h : s < 2 ^ 32) : byteN s b < 2 ^ 32 := bits_lt s b 8 h

theorem feed_lt (s : Nat) (l : List UInt8) (h : s < 2 ^ 32) : feedN s l < 2 ^ 32 := by
  induction l generalizing s with
  | nil => exact h
  | cons c l ih => exact ih _ (byte_lt _ _ h)

theorem feed_append (s : Nat) (l m : List UInt8) : feedN s (l ++ m) = feedN (feedN s l) m := by simp [feedN]

theorem feed_snoc (s : Nat) (l : List UInt8) (c : UInt8) : feedN s (l ++ [c]) = byteN (feedN s l) c.toNat := by simp [feedN]

end Go.Proofs.Crc
