/- EndingReads: what may be an end; what lies where in a text. -/
import Derived.Test.YthgjijjalfhhcaaEnR
import Derived.Handy
import Derived.Below
namespace Go.Proofs.Ythgjijjalfhhcaa
set_option linter.unusedVariables false
open Go.RowKit
open Go.Proofs.Num
attribute [local go_sem ↓] Go.wp_at_zero Go.wp_at_succ
namespace Edg
open Fld

/-- An end, as it is handed on. -/
abbrev endV (a b c d : Int) : Value := .agg #[.int .i64 a, .int .i64 b, .int .i64 c, .int .i64 d]

set_option maxRecDepth 100000 in
theorem upto_yes (n m : Int) (w : World) (h0 : 0 ≤ n) (h1 : n ≤ m) : Calls Try.prog 97 #[.int .i64 n, .int .i64 m] w fun e w' => e = .returned (.bool true) ∧ w = w' := by
  go_enter Try.func97, Try.ntmps97
  go_wp2_with fail
  go_ret
  exact ⟨rfl, rfl⟩
set_option maxRecDepth 100000 in
theorem upto_no (n m : Int) (w : World) (h0 : 0 ≤ n) (h1 : ¬ n ≤ m) : Calls Try.prog 97 #[.int .i64 n, .int .i64 m] w fun e w' => e = .returned (.bool false) ∧ w = w' := by
  go_enter Try.func97, Try.ntmps97
  go_wp2_with fail
  go_ret
  exact ⟨rfl, rfl⟩

/-- May it be? -/
def rightB (b c : Int) : Bool := decide (b ≤ 2147483647) && decide (c ≤ 2147483647)

set_option maxRecDepth 100000 in
set_option maxHeartbeats 1000000 in
theorem right (a b c d : Int) (w : World) (ha0 : 0 ≤ a) (ha : a ≤ 65535) (hb0 : 0 ≤ b) (hc0 : 0 ≤ c) (hd0 : 0 ≤ d) (hd : d ≤ 65535) :
    Calls Try.prog 81 #[endV a b c d] w fun e w' => e = .returned (.bool (rightB b c)) ∧ Below w.heap.size w w' := by
  have U1 := hid (fun w => upto_yes a 65535 w ha0 ha)
  have U4 := hid (fun w => upto_yes d 65535 w hd0 hd)
  by_cases hb : b ≤ 2147483647
  · have U2 := hid (fun w => upto_yes b 2147483647 w hb0 hb)
    by_cases hc : c ≤ 2147483647
    · have U3 := hid (fun w => upto_yes c 2147483647 w hc0 hc)
      have HR := hid (show rightB b c = true by unfold rightB; simp [hb, hc])
      clear ha0 ha hb0 hc0 hd0 hd hb hc
      go_enter Try.func81, Try.ntmps81
      go_wp2_with fail
      refine (U1.out _).mono ?_
      rintro e w1 ⟨rfl, rfl⟩
      go_wp2_with fail
      refine (U2.out _).mono ?_
      rintro e w1 ⟨rfl, rfl⟩
      go_wp2_with fail
      refine (U3.out _).mono ?_
      rintro e w1 ⟨rfl, rfl⟩
      go_wp2_with fail
      refine (U4.out _).mono ?_
      rintro e w1 ⟨rfl, rfl⟩
      go_wp2_with fail
      go_ret
      exact ⟨ret_bool HR.out.symm, (Below.refl _ _).alloc (Nat.le_refl _) _⟩
    · have U3 := hid (fun w => upto_no c 2147483647 w hc0 hc)
      have HR := hid (show rightB b c = false by unfold rightB; simp [hb, hc])
      clear ha0 ha hb0 hc0 hd0 hd hb hc
      go_enter Try.func81, Try.ntmps81
      go_wp2_with fail
      refine (U1.out _).mono ?_
      rintro e w1 ⟨rfl, rfl⟩
      go_wp2_with fail
      refine (U2.out _).mono ?_
      rintro e w1 ⟨rfl, rfl⟩
      go_wp2_with fail
      refine (U3.out _).mono ?_
      rintro e w1 ⟨rfl, rfl⟩
      go_wp2_with fail
      go_ret
      exact ⟨ret_bool HR.out.symm, (Below.refl _ _).alloc (Nat.le_refl _) _⟩
  · have U2 := hid (fun w => upto_no b 2147483647 w hb0 hb)
    have HR := hid (show rightB b c = false by unfold rightB; simp [hb])
    clear ha0 ha hb0 hc0 hd0 hd hb
    go_enter Try.func81, Try.ntmps81
    go_wp2_with fail
    refine (U1.out _).mono ?_
    rintro e w1 ⟨rfl, rfl⟩
    go_wp2_with fail
    refine (U2.out _).mono ?_
    rintro e w1 ⟨rfl, rfl⟩
    go_wp2_with fail
    go_ret
    exact ⟨ret_bool HR.out.symm, (Below.refl _ _).alloc (Nat.le_refl _) _⟩

set_option maxRecDepth 100000 in
set_option maxHeartbeats 1000000 in
theorem refRight (a b c d : Int) (w : World) (ha0 : 0 ≤ a) (ha : a ≤ 65535) (hb0 : 0 ≤ b) (hc0 : 0 ≤ c) (hd0 : 0 ≤ d) (hd : d ≤ 65535) :
    Calls Try.prog 84 #[endV a b c d] w fun e w' => e = .returned (.bool (rightB b c)) ∧ Below w.heap.size w w' := by
  have ha2 : a < 65536 := by omega
  have hd2 : d < 65536 := by omega
  by_cases hb : b < 2147483648
  · by_cases hc : c < 2147483648
    · have HR := hid (show rightB b c = true by unfold rightB; simp; omega)
      go_enter Try.func84, Try.ntmps84
      go_wp2_with fail
      go_ret
      exact ⟨ret_bool HR.out.symm, (Below.refl _ _).alloc (Nat.le_refl _) _⟩
    · have HR := hid (show rightB b c = false by unfold rightB; simp; omega)
      go_enter Try.func84, Try.ntmps84
      go_wp2_with fail
      go_ret
      exact ⟨ret_bool HR.out.symm, (Below.refl _ _).alloc (Nat.le_refl _) _⟩
  · have HR := hid (show rightB b c = false by unfold rightB; simp; omega)
    go_enter Try.func84, Try.ntmps84
    go_wp2_with fail
    go_ret
    exact ⟨ret_bool HR.out.symm, (Below.refl _ _).alloc (Nat.le_refl _) _⟩

/-- The number of n bytes from o on. -/
def G (t : ByteArray) (o n : Nat) : Int := getI (t.extract o t.size) n

theorem getI_bd (s : ByteArray) (n : Nat) : 0 ≤ getI s n ∧ getI s n < ((256 ^ n : Nat) : Int) := by
  have h1 := getL_lt (s.data.toList.take n)
  have h2 : (s.data.toList.take n).length ≤ n := by rw [List.length_take]; omega
  have h3 : 256 ^ (s.data.toList.take n).length ≤ 256 ^ n := Nat.pow_le_pow_right (by decide) h2
  unfold getI
  omega
theorem g2 (t : ByteArray) (o : Nat) : 0 ≤ G t o 2 ∧ G t o 2 ≤ 65535 := by
  have := getI_bd (t.extract o t.size) 2
  unfold G
  simp at this ⊢
  omega
theorem g4 (t : ByteArray) (o : Nat) : 0 ≤ G t o 4 ∧ G t o 4 ≤ 4294967295 := by
  have := getI_bd (t.extract o t.size) 4
  unfold G
  simp at this ⊢
  omega

/-- A step of reading a number, whatever the reader is. -/
theorem num_some (g : Nat) (s : ByteArray) (p : Nat) (bad : Bool) (n : Nat) (w : World) (h : Rd w g 125 s p bad) (hp : p ≤ s.size) (hs : s.size ≤ 9223372036854775807) (hn : n ≤ 4) :
    Calls Try.prog 79 #[.pointer (some ⟨g, 0, none⟩), .int .i64 (n : Int)] w fun e w' => ∃ (v : Int) (q : Nat) (b : Bool), e = .returned (.int .u64 v) ∧ 0 ≤ v ∧ v < ((256 ^ n : Nat) : Int) ∧ q ≤ s.size ∧ Fld.Left w g 125 s q b w' ∧
      (b = false ↔ bad = false ∧ p + n ≤ s.size) ∧ (b = false → q = p + n ∧ v = G s p n) := by
  have hz : (s.extract p s.size).size = s.size - p := by simp [ByteArray.size_extract]
  have h0 : (0 : Int) < ((256 ^ n : Nat) : Int) := by exact_mod_cast Nat.pow_pos (by decide)
  cases bad with
  | true =>
    refine (num_bad g s p n w h).mono ?_
    rintro e w' ⟨rfl, hl⟩
    exact ⟨0, p, true, rfl, Int.le_refl _, h0, hp, hl, by simp, by simp⟩
  | false =>
    by_cases hq : p + n ≤ s.size
    · refine (num_yes g s p n _ w h hq hs (fun w => get_yes _ n w (by omega) (by omega) (by omega))).mono ?_
      rintro e w' ⟨rfl, hl⟩
      have := getI_bd (s.extract p s.size) n
      exact ⟨_, p + n, false, rfl, this.1, this.2, hq, hl, by simp [hq], fun _ => ⟨rfl, rfl⟩⟩
    · refine (num_no g s p n w h hp hs (fun w => get_no _ n w (by omega) (.inr (.inr (by omega))) (by omega) (by omega))).mono ?_
      rintro e w' ⟨rfl, hl⟩
      exact ⟨0, p, true, rfl, Int.le_refl _, h0, hp, hl, by simp; omega, by simp⟩

/-- Is a text an end? -/
def okT (t : ByteArray) : Bool := decide (22 ≤ t.size ∧ G t 0 4 = 101010256 ∧ G t 4 2 = 0 ∧ G t 6 2 = 0 ∧ G t 8 2 = G t 10 2 ∧ rightB (G t 12 4) (G t 16 4) = true ∧ (t.size : Int) = 22 + G t 20 2)
/-- Which one. -/
def valT (t : ByteArray) : Value := if okT t then endV (G t 8 2) (G t 12 4) (G t 16 4) (G t 20 2) else endV 0 0 0 0
theorem valT_yes {t : ByteArray} (h : okT t = true) : valT t = endV (G t 8 2) (G t 12 4) (G t 16 4) (G t 20 2) := by unfold valT; rw [if_pos h]
theorem valT_no {t : ByteArray} (h : okT t = false) : valT t = endV 0 0 0 0 := by unfold valT; rw [h]; rfl
/-- Is there an end from a place on? -/
def okA (s : ByteArray) (at_ : Int) : Bool := decide (0 ≤ at_) && decide (at_ ≤ s.size) && okT (s.extract at_.toNat s.size)
def valA (s : ByteArray) (at_ : Int) : Value := if okA s at_ then valT (s.extract at_.toNat s.size) else endV 0 0 0 0
end Edg
end Go.Proofs.Ythgjijjalfhhcaa
