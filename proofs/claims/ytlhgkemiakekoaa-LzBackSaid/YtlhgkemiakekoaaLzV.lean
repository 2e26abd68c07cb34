/- LZ: what the best tokens make. Mathematics. -/
import Derived.Test.YtlhgkemiakekoaaLzU
namespace Go.Proofs.Ytlhgkemiakekoaa
set_option linter.unusedVariables false
open Go.RowKit
namespace Lz
/-- The first bytes of a text. -/
def takeB (s : ByteArray) (n : Nat) : List UInt8 := (List.range n).map fun i => UInt8.ofNat (byteT s i)
theorem takeB_len (s : ByteArray) (n : Nat) : (takeB s n).length = n := by simp [takeB]
theorem takeB_succ (s : ByteArray) (n : Nat) : takeB s (n + 1) = takeB s n ++ [UInt8.ofNat (byteT s n)] := by simp [takeB, List.range_succ]
theorem takeB_at (s : ByteArray) {n i : Nat} (h : i < n) : (takeB s n).getD i 0 = UInt8.ofNat (byteT s i) := by simp [takeB, h]
theorem longF_all (s : ByteArray) (a k : Nat) : ∀ f m i, m ≤ i → i < longF s a k f m → a + i < s.size ∧ byteT s (a + i) = byteT s (a + i - k) := by
  intro f
  induction f with
  | zero => intro m i h1 h2; unfold longF at h2; omega
  | succ f ih =>
    intro m i h1 h2
    unfold longF at h2
    split at h2
    · rename_i hc
      by_cases e : i = m
      · subst e; exact hc
      · exact ih (m + 1) i (by omega) h2
    · omega
theorem copy_take {s : ByteArray} {p k : Nat} (hk1 : 1 ≤ k) (hk : k ≤ p) : ∀ n, n ≤ longF s p k 258 0 → copyT (takeB s p) k n = takeB s (p + n) := by
  intro n
  induction n with
  | zero => intro _; rfl
  | succ n ih =>
    intro h
    have h1 := ih (by omega)
    have h2 := (longF_all s p k 258 0 n (Nat.zero_le _) (by omega)).2
    rw [copyT, h1, takeB_len, takeB_at s (by omega), show p + (n + 1) = p + n + 1 by omega, takeB_succ, h2]
theorem good_le {s : ByteArray} {p : Nat} {x y z L : Int} (hp : p < s.size) (h : Good s p x y z L) : ∃ N : Nat, L = (N : Int) ∧ 1 ≤ N ∧ p + N ≤ s.size := by
  rcases h with ⟨_, _, _, h⟩ | ⟨k, hk, _, _, _, h, h3⟩
  · exact ⟨1, h, by omega, by omega⟩
  · refine ⟨_, h, by omega, ?_⟩
    have h1 := (longF_all s p k 258 0 (longF s p k 258 0 - 1) (Nat.zero_le _) (by omega)).1
    omega
theorem good_one {s : ByteArray} {p N : Nat} {x y z L : Int} (hs : s.size ≤ 65000) (hp : p < s.size) (h : Good s p x y z L) (hN : L = (N : Int)) (hNs : p + N ≤ s.size) : oneE (takeB s p) x y z = some (takeB s (p + N)) := by
  rcases h with ⟨rfl, rfl, rfl, h⟩ | ⟨k, hk, rfl, rfl, rfl, h, h3⟩
  · obtain rfl : N = 1 := by omega
    rw [oneE_byte ⟨rfl, rfl⟩ (by rw [takeB_len]; omega), takeB_succ]
    simp
  · have hk' := hk
    obtain ⟨k1, k2, k3, _⟩ := hk'
    have hN2 : N = longF s p k 258 0 := by omega
    have hg := (longF_ge s p k 258 0).2
    rw [oneE_copy ⟨rfl, by omega, by omega, by omega, by omega, by rw [takeB_len]; omega⟩ (by rw [takeB_len]; omega)]
    rw [hN]
    simp only [Int.toNat_natCast]
    rw [copy_take k1 k2 N (by omega)]
theorem exp_snoc {o : List Tok} {t : Tok} {l l' : List UInt8} (h : expT (tx o) (ty o) (tz o) o.length = some l) (h2 : oneE l t.1 t.2.1 t.2.2 = some l') : expT (tx (o ++ [t])) (ty (o ++ [t])) (tz (o ++ [t])) (o ++ [t]).length = some l' := by
  have hlen : (o ++ [t]).length = o.length + 1 := by simp
  rw [hlen]
  have hcg : expT (tx (o ++ [t])) (ty (o ++ [t])) (tz (o ++ [t])) o.length = expT (tx o) (ty o) (tz o) o.length := by
    apply expT_congr
    intro k hk
    simp [tx, ty, tz, List.getElem?_append, hk]
  rw [expT_succ (hcg.trans h)]
  have e : (o ++ [t]).getD o.length (0, 0, 0) = t := by simp
  unfold tx ty tz
  rw [e]
  exact h2
theorem good_range {s : ByteArray} {p : Nat} {x y z L : Int} (h : Good s p x y z L) : 0 ≤ x ∧ x < 256 := by
  rcases h with ⟨rfl, _⟩ | ⟨k, _, rfl, _⟩
  · have := byteT_lt s p; omega
  · omega
theorem good_long {s : ByteArray} {p : Nat} {x y z L : Int} (h : Good s p x y z L) : 0 ≤ y ∧ y ≤ 258 := by
  rcases h with ⟨_, rfl, _⟩ | ⟨k, _, _, rfl, _, h, _⟩
  · omega
  · have := (longF_ge s p k 258 0).2
    omega
/-- The tokens' numbers are small. -/
def Rg (o : List Tok) : Prop := ∀ k, k < o.length → (0 ≤ tx o k ∧ tx o k < 256) ∧ 0 ≤ ty o k ∧ ty o k ≤ 258
theorem rg_next {o : List Tok} {x y z : Int} (h : Rg o) (hx : 0 ≤ x ∧ x < 256) (hy : 0 ≤ y ∧ y ≤ 258) : Rg (o ++ [(x, y, z)]) := by
  intro k hk
  by_cases e : k < o.length
  · have h1 := h k e
    unfold tx ty at *
    simp only [List.getD_eq_getElem?_getD] at *
    rw [List.getElem?_append_left e]
    exact h1
  · obtain rfl : k = o.length := by simp at hk; omega
    unfold tx ty
    have e : (o ++ [(x, y, z)]).getD o.length (0, 0, 0) = (x, y, z) := by simp
    rw [e]
    exact ⟨hx, hy⟩
/-- Tokens that make the first bytes. -/
def Makes (s : ByteArray) (p : Nat) (o : List Tok) : Prop := expT (tx o) (ty o) (tz o) o.length = some (takeB s p) ∧ o.length ≤ p ∧ Rg o
theorem makes_nil (s : ByteArray) : Makes s 0 [] := ⟨rfl, Nat.le_refl _, fun k hk => absurd hk (by simp)⟩
theorem makes_next {s : ByteArray} {p N : Nat} {o : List Tok} {x y z L : Int} (hs : s.size ≤ 65000) (hp : p < s.size) (h : Makes s p o) (hg : Good s p x y z L) (hN : L = (N : Int)) (h1 : 1 ≤ N) (hNs : p + N ≤ s.size) : Makes s (p + N) (o ++ [(x, y, z)]) :=
  ⟨exp_snoc h.1 (good_one hs hp hg hN hNs), by have := h.2.1; simp; omega, rg_next h.2.2 (good_range hg) (good_long hg)⟩
theorem makes_bytes {s : ByteArray} (hs : s.size ≤ 65000) : ∀ p, p ≤ s.size → Makes s p (bytesT s p) := by
  intro p
  induction p with
  | zero => intro _; exact makes_nil s
  | succ p ih =>
    intro h
    rw [bytesT_succ]
    exact makes_next (L := 1) (N := 1) hs (by omega) (ih (by omega)) (.inl ⟨rfl, rfl, rfl, rfl⟩) rfl (by omega) (by omega)
/-- A short text of one byte, again and again. -/
def Rp (s : ByteArray) : Prop := s.size ≤ 600 ∧ ∀ i, i < s.size → byteT s i = byteT s 0
/-- They are few, if the text is of one byte. -/
def Few (s : ByteArray) (p : Nat) (o : List Tok) : Prop := Rp s → 3 * o.length ≤ p + 2 + 2 * (p + 2 - s.size)
theorem few_nil (s : ByteArray) : Few s 0 [] := fun _ => by simp
theorem few_next {s : ByteArray} {p N : Nat} {o : List Tok} {t : Tok} {L : Int} (hp : p < s.size) (h : Few s p o) (hN : L = (N : Int)) (h1 : 1 ≤ N) (hNs : p + N ≤ s.size) (hr : Rep s p → 3 ≤ L) : Few s (p + N) (o ++ [t]) := by
  intro r
  have h2 := h r
  have hlen : (o ++ [t]).length = o.length + 1 := by simp
  rw [hlen]
  by_cases h3 : p + 3 ≤ s.size
  · by_cases h0 : p = 0
    · subst h0
      omega
    · have h4 := hr ⟨r.1, h3, 0, by omega, by rw [r.2 p (by omega)], by rw [r.2 (0 + 1) (by omega), r.2 (p + 1) (by omega)], by rw [r.2 (0 + 2) (by omega), r.2 (p + 2) (by omega)]⟩
      omega
  · omega
end Lz
end Go.Proofs.Ytlhgkemiakekoaa
