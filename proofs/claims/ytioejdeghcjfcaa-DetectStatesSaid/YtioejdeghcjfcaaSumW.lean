/- WALKS over the document's own sums of bytes, and over the program's byte, bit by bit. -/
import Derived.Test.YtioejdeghcjfcaaProg
import Derived.Test.YtioejdeghcjfcaaSumM
import Derived.WalkKit
import Derived.WalkSpells
import Derived.WalkLawsBesides
namespace Go.Proofs.Ytioejdeghcjfcaa.Sm
set_option linter.unusedVariables false
open Go.RowKit
open Go.Proofs.Crc

theorem hid {p : Prop} (h : p) : Hid p := h
theorem ret_u32 {a b : Int} (h : a = b) : Ending.returned (.int .u32 a) = .returned (.int .u32 b) := by rw [h]

theorem bits_xor_u32 (a b : Nat) (ha : a < 2 ^ 32) (hb : b < 2 ^ 32) : bits .xor .u32 (a : Int) (b : Int) = ((a ^^^ b : Nat) : Int) := by
  show IntKind.u32.wrap ((BitVec.ofInt 32 (a : Int) ^^^ BitVec.ofInt 32 (b : Int)).toNat : Int) = _
  have hx : a ^^^ b < 2 ^ 32 := Nat.xor_lt_two_pow ha hb
  rw [BitVec.toNat_xor, BitVec.ofInt_natCast, BitVec.ofInt_natCast, BitVec.toNat_ofNat, BitVec.toNat_ofNat, Nat.mod_eq_of_lt ha, Nat.mod_eq_of_lt hb, IntKind.wrap_u32]
  omega

/-- The state behind a bit, as a number. -/
def bitI (s b : Int) : Int := ((bitN s.toNat b.toNat : Nat) : Int)
def byteI (s b : Int) : Int := ((byteN s.toNat b.toNat : Nat) : Int)
def feedI (s : Int) (l : List UInt8) : Int := ((feedN s.toNat l : Nat) : Int)

theorem bitI_one (s b : Int) (h0 : 0 ≤ s) (h1 : s < 4294967296) (hb : 0 ≤ b) (h : ((s + b) % 2 == 1) = true) : bits .xor .u32 (s / 2) 3988292384 = bitI s b := by
  obtain ⟨S, rfl⟩ := Int.eq_ofNat_of_zero_le h0
  obtain ⟨B, rfl⟩ := Int.eq_ofNat_of_zero_le hb
  have h' : (S + B) % 2 = 1 := by simp at h; omega
  have e := bits_xor_u32 (S / 2) 3988292384 (by omega) (by decide)
  unfold bitI bitN
  rw [Int.toNat_natCast, Int.toNat_natCast, if_pos h']
  exact e

theorem bitI_no (s b : Int) (h0 : 0 ≤ s) (hb : 0 ≤ b) (h : ((s + b) % 2 == 1) = false) : s / 2 = bitI s b := by
  obtain ⟨S, rfl⟩ := Int.eq_ofNat_of_zero_le h0
  obtain ⟨B, rfl⟩ := Int.eq_ofNat_of_zero_le hb
  have h' : ¬ (S + B) % 2 = 1 := by simp at h; omega
  unfold bitI bitN
  rw [Int.toNat_natCast, Int.toNat_natCast, if_neg h']
  omega

set_option maxHeartbeats 400000 in
/-- The document's own bit. -/
theorem refBit (s b : Int) (w : World) (h0 : 0 ≤ s) (h1 : s < 4294967296) (hb0 : 0 ≤ b) (hb : b ≤ 1) :
    Calls Try.prog 19 #[.int .u32 s, .int .u32 b] w fun e w' => e = .returned (.int .u32 (bitI s b)) ∧ w = w' := by
  go_enter Try.func19, Try.ntmps19
  go_wp2
  · have h : ((s + b) % 2 == 1) = true := by assumption
    go_ret
    exact ⟨ret_u32 (bitI_one s b h0 h1 hb0 h), rfl⟩
  · have h : ((s + b) % 2 == 1) = false := by assumption
    go_ret
    exact ⟨ret_u32 (bitI_no s b h0 hb0 h), rfl⟩

theorem bitsI_bd (S B k : Nat) (h : S < 4294967296) : 0 ≤ (bitsN S B k : Int) ∧ (bitsN S B k : Int) < 4294967296 := by
  have := bits_lt S B k h
  omega

theorem bitI_bits (S B k : Nat) : bitI (bitsN S B k : Int) ((B / 2 ^ k % 2 : Nat) : Int) = (bitsN S B (k + 1) : Int) := by
  unfold bitI
  rw [Int.toNat_natCast, Int.toNat_natCast]; rfl

theorem ret_q {k : IntKind} {a b : Int} (h : a = b) : Value.int k a = .int k b := by rw [h]

theorem half_next {n B k : Nat} (h : n = B / 2 ^ k) : (n : Int) / 2 = ((B / 2 ^ (k + 1) : Nat) : Int) := by
  subst h
  rw [Nat.pow_succ, ← Nat.div_div_eq_div_mul]
  omega

set_option maxHeartbeats 400000 in
/-- The document's own byte. -/
theorem refByte (S B : Nat) (w : World) (h1 : S < 4294967296) (hb : B < 256) :
    Calls Try.prog 16 #[.int .u32 (S : Int), .int .u8 (B : Int)] w fun e w' => e = .returned (.int .u32 (byteN S B : Nat)) ∧ w = w' := by
  go_enter Try.func16, Try.ntmps16
  go_wp2
  go_loop [0, 5, 6] (fun st n i => ∃ k : Nat, k ≤ 8 ∧ i = .int .i64 k ∧ n = .int .u32 ((B / 2 ^ k : Nat) : Int) ∧ st = .int .u32 (bitsN S B k : Nat)) (fun _ _ i => 8 - (intOf i).toNat)
  case atStart => exact ⟨0, by omega, rfl, by simp, rfl⟩
  case round =>
    obtain ⟨k, hk, rfl, rfl, rfl⟩ := hrel
    obtain ⟨hb1, hb2⟩ := bitsI_bd S B k h1
    have HN := hid (bitI_bits S B k)
    obtain ⟨n, hn⟩ : ∃ n : Nat, n = B / 2 ^ k := ⟨_, rfl⟩
    have hn2 : n < 256 := by rw [hn]; exact Nat.lt_of_le_of_lt (Nat.div_le_self _ _) hb
    rw [← hn] at HN ⊢
    obtain ⟨x, hx⟩ : ∃ x : Int, x = (bitsN S B k : Int) := ⟨_, rfl⟩
    rw [← hx] at HN hb1 hb2 ⊢
    have HX := hid hx; have HM := hid hn; clear hx hn
    by_cases hlt : k < 8
    · go_wp2_with fail
      refine (refBit x ((n : Int) % 2) _ hb1 hb2 (by omega) (by omega)).mono ?_
      rintro e w' ⟨rfl, rfl⟩
      go_wp2_with fail
      go_round
      case rel => exact ⟨k + 1, by omega, by go_num, ret_q (half_next HM.out), by rw [show ((n : Int) % 2) = ((n % 2 : Nat) : Int) from rfl, HN.out]⟩
      case measure => simp [intOf]; omega
    · go_wp2_with fail
      go_ret
      have : k = 8 := by omega
      subst this
      exact ⟨by rw [HX.out]; rfl, rfl⟩

theorem byteI_of (S B : Nat) : byteI (S : Int) (B : Int) = (byteN S B : Nat) := by unfold byteI; rw [Int.toNat_natCast, Int.toNat_natCast]

theorem byteI_bd (s b : Int) (h0 : 0 ≤ s) (h1 : s < 4294967296) : 0 ≤ byteI s b ∧ byteI s b < 4294967296 := by
  have := byte_lt s.toNat b.toNat (by omega)
  unfold byteI; omega

theorem feedI_bd (s : Int) (l : List UInt8) (h0 : 0 ≤ s) (h1 : s < 4294967296) : 0 ≤ feedI s l ∧ feedI s l < 4294967296 := by
  have := feed_lt s.toNat l (by omega)
  unfold feedI; omega

theorem feedI_nil (s : Int) (h0 : 0 ≤ s) : feedI s [] = s := by unfold feedI feedN; simp; omega

theorem feedI_snoc (s : Int) (l : List UInt8) (c : UInt8) : feedI s (l ++ [c]) = byteI (feedI s l) (c.toNat : Int) := by
  unfold feedI byteI
  rw [feed_snoc, Int.toNat_natCast, Int.toNat_natCast]

theorem take_snoc (s : ByteArray) (k : Nat) (h : k < s.size) : s.data.toList.take (k + 1) = s.data.toList.take k ++ [s[k]] := by
  rw [List.take_succ_eq_append_getElem (by simpa using h)]; rfl

theorem refByteI (s b : Int) (w : World) (h0 : 0 ≤ s) (h1 : s < 4294967296) (hb0 : 0 ≤ b) (hb : b < 256) :
    Calls Try.prog 16 #[.int .u32 s, .int .u8 b] w fun e w' => e = .returned (.int .u32 (byteI s b)) ∧ w = w' := by
  obtain ⟨S, rfl⟩ := Int.eq_ofNat_of_zero_le h0
  obtain ⟨B, rfl⟩ := Int.eq_ofNat_of_zero_le hb0
  refine (refByte S B w (by omega) (by omega)).mono ?_
  rintro e w' ⟨rfl, rfl⟩
  exact ⟨ret_u32 (byteI_of S B).symm, rfl⟩

set_option maxHeartbeats 400000 in
/-- The document's own text. -/
theorem refFeed (st : Int) (s : ByteArray) (w : World) (h0 : 0 ≤ st) (h1 : st < 4294967296) (hs : s.size ≤ maxLen) :
    Calls Try.prog 11 #[.int .u32 st, .string s] w fun e w' => e = .returned (.int .u32 (feedI st s.data.toList)) ∧ w = w' := by
  unfold maxLen at hs
  go_enter Try.func11, Try.ntmps11
  go_wp2_with fail
  go_loop [0, 5] (fun x i => ∃ k : Nat, k ≤ s.size ∧ i = .int .i64 k ∧ x = .int .u32 (feedI st (s.data.toList.take k))) (fun _ i => s.size - (intOf i).toNat)
  case atStart => exact ⟨0, by omega, rfl, by rw [List.take_zero, feedI_nil _ h0]⟩
  case round =>
    obtain ⟨k, hk, rfl, rfl⟩ := hrel
    obtain ⟨hb1, hb2⟩ := feedI_bd st (s.data.toList.take k) h0 h1
    by_cases hlt : k < s.size
    · have HS := hid (take_snoc s k hlt)
      have HF := hid (feedI_snoc st (s.data.toList.take k) s[k])
      go_wp2_with (go_at_call 16; refine (refByteI _ _ _ hb1 hb2 (by omega) (by have := UInt8.toNat_lt s[k]; omega)).mono ?_; rintro e w' ⟨rfl, rfl⟩)
      go_round
      case rel => exact ⟨k + 1, by omega, by go_num, ret_q (by rw [HS.out, HF.out])⟩
      case measure => simp [intOf]; omega
    · go_wp2_with fail
      go_ret
      exact ⟨ret_u32 (by rw [List.take_of_length_le (by simp; omega)]), rfl⟩

/-- The sum of a text. -/
def ofI (l : List UInt8) : Int := 4294967295 - feedI 4294967295 l

set_option maxHeartbeats 400000 in
theorem refOf (s : ByteArray) (w : World) (hs : s.size ≤ maxLen) :
    Calls Try.prog 9 #[.string s] w fun e w' => e = .returned (.int .u32 (ofI s.data.toList)) ∧ w = w' := by
  obtain ⟨hb1, hb2⟩ := feedI_bd 4294967295 s.data.toList (by omega) (by omega)
  go_enter Try.func9, Try.ntmps9
  go_wp2_with (go_at_call 11; refine (refFeed _ _ _ (by omega) (by omega) hs).mono ?_; rintro e w' ⟨rfl, rfl⟩)
  go_ret
  exact ⟨ret_u32 rfl, rfl⟩

theorem kept_eq (S c : Nat) (hS : S < 4294967296) (hc : c < 4294967296) :
    bits .and .u32 (bits .xor .u32 (S : Int) (c : Int)) 1 = (((S + c) % 2 : Nat) : Int) := by
  have hx : S ^^^ c < 2 ^ 32 := Nat.xor_lt_two_pow hS hc
  rw [bits_xor_u32 S c hS hc]
  have h := bits_mask .u32 32 (by decide) (fun n h₀ h₁ => by rw [IntKind.wrap_u32]; omega) 1 (by decide) ((S ^^^ c : Nat) : Int) (by omega) (by exact_mod_cast hx)
  have e : ((2 : Int) ^ 1 - 1) = 1 := rfl
  rw [e] at h
  rw [h]
  have := odd_xor S c
  have e2 : ((2 : Int) ^ 1) = 2 := rfl
  rw [e2]; omega

theorem behind_yes (S B k : Nat) (hS : S < 4294967296) (hB : B < 256) (h : (bits .and .u32 (bits .xor .u32 (S : Int) ((B : Int) / 2 ^ k % 4294967296)) 1 == 1) = true) :
    bits .xor .u32 ((S : Int) / 2) 3988292384 = (bitN S (B / 2 ^ k % 2) : Nat) := by
  have hb : B / 2 ^ k < 256 := Nat.lt_of_le_of_lt (Nat.div_le_self _ _) hB
  have e : ((B : Int) / 2 ^ k % 4294967296) = ((B / 2 ^ k : Nat) : Int) := by
    have : ((B : Int) / 2 ^ k) = ((B / 2 ^ k : Nat) : Int) := by simp
    rw [this]
    obtain ⟨n, hn⟩ : ∃ n : Nat, n = B / 2 ^ k := ⟨_, rfl⟩
    rw [← hn] at hb ⊢; omega
  rw [e, kept_eq S _ hS (by omega)] at h
  have h' : (S + B / 2 ^ k % 2) % 2 = 1 := by
    have h2 : (((S + B / 2 ^ k) % 2 : Nat) : Int) = 1 := by simpa using h
    omega
  have e := bits_xor_u32 (S / 2) 3988292384 (by omega) (by decide)
  unfold bitN
  rw [if_pos h']
  exact e

theorem behind_no (S B k : Nat) (hS : S < 4294967296) (hB : B < 256) (h : (bits .and .u32 (bits .xor .u32 (S : Int) ((B : Int) / 2 ^ k % 4294967296)) 1 == 1) = false) :
    (S : Int) / 2 = (bitN S (B / 2 ^ k % 2) : Nat) := by
  have hb : B / 2 ^ k < 256 := Nat.lt_of_le_of_lt (Nat.div_le_self _ _) hB
  have e : ((B : Int) / 2 ^ k % 4294967296) = ((B / 2 ^ k : Nat) : Int) := by
    have : ((B : Int) / 2 ^ k) = ((B / 2 ^ k : Nat) : Int) := by simp
    rw [this]
    obtain ⟨n, hn⟩ : ∃ n : Nat, n = B / 2 ^ k := ⟨_, rfl⟩
    rw [← hn] at hb ⊢; omega
  rw [e, kept_eq S _ hS (by omega)] at h
  have h' : ¬ (S + B / 2 ^ k % 2) % 2 = 1 := by
    intro h3
    have h2 : ¬ (((S + B / 2 ^ k) % 2 : Nat) : Int) = 1 := by simpa using h
    omega
  unfold bitN
  rw [if_neg h']
  omega

def bitsI (s b : Int) (k : Nat) : Int := ((bitsN s.toNat b.toNat k : Nat) : Int)

theorem bitsI_bound (s b : Int) (k : Nat) (h0 : 0 ≤ s) (h1 : s < 4294967296) : 0 ≤ bitsI s b k ∧ bitsI s b k < 4294967296 := by
  have := bits_lt s.toNat b.toNat k (by omega)
  unfold bitsI; omega

theorem bitsI_yes (s b x : Int) (k : Nat) (hx : x = bitsI s b k) (hb0 : 0 ≤ b) (hb : b < 256) (x0 : 0 ≤ x) (x1 : x < 4294967296)
    (h : (bits .and .u32 (bits .xor .u32 x (b / 2 ^ k % 4294967296)) 1 == 1) = true) : bits .xor .u32 (x / 2) 3988292384 = bitsI s b (k + 1) := by
  obtain ⟨X, rfl⟩ := Int.eq_ofNat_of_zero_le x0
  obtain ⟨B, rfl⟩ := Int.eq_ofNat_of_zero_le hb0
  have hX : X = bitsN s.toNat B k := by unfold bitsI at hx; rw [Int.toNat_natCast] at hx; omega
  rw [behind_yes X B k (by omega) (by omega) h]
  unfold bitsI
  rw [Int.toNat_natCast, hX]; rfl

theorem bitsI_no (s b x : Int) (k : Nat) (hx : x = bitsI s b k) (hb0 : 0 ≤ b) (hb : b < 256) (x0 : 0 ≤ x) (x1 : x < 4294967296)
    (h : (bits .and .u32 (bits .xor .u32 x (b / 2 ^ k % 4294967296)) 1 == 1) = false) : x / 2 = bitsI s b (k + 1) := by
  obtain ⟨X, rfl⟩ := Int.eq_ofNat_of_zero_le x0
  obtain ⟨B, rfl⟩ := Int.eq_ofNat_of_zero_le hb0
  have hX : X = bitsN s.toNat B k := by unfold bitsI at hx; rw [Int.toNat_natCast] at hx; omega
  rw [behind_no X B k (by omega) (by omega) h]
  unfold bitsI
  rw [Int.toNat_natCast, hX]; rfl

set_option maxHeartbeats 400000 in
/-- The program's own byte, bit by bit. -/
theorem behindI (s b : Int) (w : World) (h0 : 0 ≤ s) (h1 : s < 4294967296) (hb0 : 0 ≤ b) (hb : b < 256) :
    Calls Try.prog 17 #[.int .u32 s, .int .u8 b] w fun e w' => e = .returned (.int .u32 (byteI s b)) ∧ w = w' := by
  go_enter Try.func17, Try.ntmps17
  go_wp2
  go_loop [0, 5, 6, 7] (fun st _ _ i => ∃ k : Nat, k ≤ 8 ∧ i = .int .i64 k ∧ st = .int .u32 (bitsI s b k)) (fun _ _ _ i => 8 - (intOf i).toNat)
  case atStart => exact ⟨0, by omega, rfl, ret_q (by unfold bitsI; simp [bitsN]; omega)⟩
  case round =>
    obtain ⟨k, hk, rfl, rfl⟩ := hrel
    obtain ⟨hb1, hb2⟩ := bitsI_bound s b k h0 h1
    have HE := hid (show k = 8 → bitsI s b k = byteI s b from fun h => by subst h; rfl)
    obtain ⟨x, hx⟩ : ∃ x : Int, x = bitsI s b k := ⟨_, rfl⟩
    rw [← hx] at HE hb1 hb2 ⊢
    have HX := hid hx; clear hx
    by_cases hlt : k < 8
    · go_wp2
      · have h : (bits .and .u32 (bits .xor .u32 x (b / 2 ^ k % 4294967296)) 1 == 1) = true := by assumption
        have H := hid (bitsI_yes s b x k HX.out hb0 hb hb1 hb2 h)
        go_round
        case rel => exact ⟨k + 1, by omega, by go_num, ret_q H.out⟩
        case measure => simp [intOf]; omega
      · have h : (bits .and .u32 (bits .xor .u32 x (b / 2 ^ k % 4294967296)) 1 == 1) = false := by assumption
        have H := hid (bitsI_no s b x k HX.out hb0 hb hb1 hb2 h)
        go_round
        case rel => exact ⟨k + 1, by omega, by go_num, ret_q H.out⟩
        case measure => simp [intOf]; omega
    · go_wp2
      go_ret
      exact ⟨ret_u32 (by rw [HE.out (by omega)]), rfl⟩

end Go.Proofs.Ytioejdeghcjfcaa.Sm
