/- Plain mathematics: sums of texts exclusive-or; one byte that is another one makes another sum. -/
import Derived.Test.YthgjijjalfhhcabDoorSumP
namespace Go.Proofs.Crc

/-- Bytes exclusive-or. -/
def mixL (l m : List UInt8) : List UInt8 := List.zipWith (fun a b => a ^^^ b) l m

theorem mix_byte (a b : UInt8) : (a ^^^ b).toNat = a.toNat ^^^ b.toNat := by simp

theorem feed_mix (a b : Nat) (l m : List UInt8) (h : l.length = m.length) : feedN (a ^^^ b) (mixL l m) = feedN a l ^^^ feedN b m := by
  induction l generalizing a b m with
  | nil =>
    cases m with
    | nil => rfl
    | cons y m => simp at h
  | cons x l ih =>
    cases m with
    | nil => simp at h
    | cons y m =>
      have e : feedN (a ^^^ b) (mixL (x :: l) (y :: m)) = feedN (byteN (a ^^^ b) ((x ^^^ y).toNat)) (mixL l m) := rfl
      have e1 : feedN a (x :: l) = feedN (byteN a x.toNat) l := rfl
      have e2 : feedN b (y :: m) = feedN (byteN b y.toNat) m := rfl
      rw [e, e1, e2, mix_byte, byte_xor _ _ _ _ (UInt8.toNat_lt x) (UInt8.toNat_lt y)]
      exact ih _ _ m (by simpa using h)

/-- Three texts, exclusive-or: the third is all 0. -/
theorem feed_three (I : Nat) (l m z : List UInt8) (h : l.length = m.length) (hz : z = List.replicate l.length 0) :
    feedN I (mixL l m) = feedN I l ^^^ feedN I m ^^^ feedN I z := by
  have hl : (mixL l m).length = z.length := by subst hz; simp [mixL, h]
  have e1 : mixL (mixL l m) z = mixL l m := by
    subst hz
    have : ∀ k : List UInt8, mixL k (List.replicate k.length 0) = k := by
      intro k
      induction k with
      | nil => rfl
      | cons x k ih => simp [mixL, List.replicate_succ] at ih ⊢; exact ih
    have h2 : (mixL l m).length = l.length := by simp [mixL, h]
    rw [← h2]
    exact this _
  have h1 := feed_mix (I ^^^ I) I (mixL l m) z hl
  have h2 := feed_mix I I l m h
  rw [e1, Nat.xor_self, Nat.zero_xor] at h1
  rw [Nat.xor_self] at h2
  rw [h1]
  rw [h2]

theorem stp_inj (a b : Nat) (ha : a < 2 ^ 32) (hb : b < 2 ^ 32) (h : stp a = stp b) : a = b := by
  have h0 : stp (a ^^^ b) = 0 := by rw [stp_xor, h, Nat.xor_self]
  have hx : a ^^^ b < 2 ^ 32 := Nat.xor_lt_two_pow ha hb
  have hz : a ^^^ b = 0 := by
    generalize a ^^^ b = x at h0 hx
    unfold stp bitN at h0
    by_cases hp : (x + 0) % 2 = 1
    · rw [if_pos hp] at h0
      have e : x / 2 = poly := by
        have := congrArg (· ^^^ poly) h0
        simpa [Nat.xor_assoc] using this
      unfold poly at e
      omega
    · rw [if_neg hp] at h0
      omega
  have := congrArg (· ^^^ b) hz
  simpa [Nat.xor_assoc] using this

theorem stps_inj (a b k : Nat) (ha : a < 2 ^ 32) (hb : b < 2 ^ 32) (h : stps a k = stps b k) : a = b := by
  induction k with
  | zero => exact h
  | succ k ih => exact ih (stp_inj _ _ (stps_lt a k ha) (stps_lt b k hb) h)

theorem byte_inj (s b c : Nat) (hs : s < 2 ^ 32) (hb : b < 256) (hc : c < 256) (h : byteN s b = byteN s c) : b = c := by
  rw [byte_stps _ _ hb, byte_stps _ _ hc] at h
  have h1 := stps_inj _ _ 8 (Nat.xor_lt_two_pow (n := 32) hs (by omega)) (Nat.xor_lt_two_pow (n := 32) hs (by omega)) h
  have := congrArg (s ^^^ ·) h1
  simpa [← Nat.xor_assoc] using this

theorem feed_inj (a b : Nat) (l : List UInt8) (ha : a < 2 ^ 32) (hb : b < 2 ^ 32) (h : feedN a l = feedN b l) : a = b := by
  induction l generalizing a b with
  | nil => exact h
  | cons c l ih =>
    have h1 := ih (byteN a c.toNat) (byteN b c.toNat) (byte_lt _ _ ha) (byte_lt _ _ hb) h
    rw [byte_stps _ _ (UInt8.toNat_lt c), byte_stps _ _ (UInt8.toNat_lt c)] at h1
    have hc := UInt8.toNat_lt c
    have h2 := stps_inj _ _ 8 (Nat.xor_lt_two_pow (n := 32) ha (by omega)) (Nat.xor_lt_two_pow (n := 32) hb (by omega)) h1
    have := congrArg (· ^^^ c.toNat) h2
    simpa [Nat.xor_assoc] using this

/-- One byte that is another one. -/
theorem feed_other (I : Nat) (l : List UInt8) (k : Nat) (c : UInt8) (hI : I < 2 ^ 32) (hk : k < l.length) (hc : c ≠ l[k]) : feedN I (l.set k c) ≠ feedN I l := by
  intro h
  have e1 : l = l.take k ++ ([l[k]] ++ l.drop (k + 1)) := by
    rw [List.singleton_append, List.getElem_cons_drop, List.take_append_drop]
  have e2 : l.set k c = l.take k ++ ([c] ++ l.drop (k + 1)) := by
    rw [List.set_eq_take_append_cons_drop, if_pos hk]; rfl
  rw [e2] at h
  conv at h => rhs; rw [e1]
  rw [feed_append, feed_append, feed_append, feed_append] at h
  have hs := feed_lt I (l.take k) hI
  have h1 := feed_inj _ _ _ (feed_lt _ [c] hs) (feed_lt _ [l[k]] hs) h
  have h2 : byteN (feedN I (l.take k)) c.toNat = byteN (feedN I (l.take k)) (l[k]).toNat := h1
  exact hc (UInt8.toNat_inj.1 (byte_inj _ _ _ hs (UInt8.toNat_lt c) (UInt8.toNat_lt _) h2))

end Go.Proofs.Crc
