/- INFLATE: which lengths may be, by the program and by the document. -/
import Derived.Test.YtlfohihmkfphhaaJnfD
namespace Go.Proofs.Ytlfohihmkfphhaa
set_option linter.unusedVariables false
open Go.RowKit
open Go.Proofs.Huf
attribute [local go_sem ↓] Go.wp_at_zero Go.wp_at_succ
namespace Inf
open Huff
def usedI (x : Nat → Int) : Nat → Nat
  | 0 => 0
  | i + 1 => usedI x i + if 0 < x i then 1 else 0
def lastI (x : Nat → Int) : Nat → Int
  | 0 => 0
  | i + 1 => if 0 < x i then x i else lastI x i
theorem nat_beq (a b : Nat) : (a == b) = ((a : Int) == (b : Int)) := by
  rw [Bool.eq_iff_iff]
  simp only [beq_iff_eq]
  omega
theorem ret_b {a b : Bool} (h : a = b) : Ending.returned (.bool a) = .returned (.bool b) := by rw [h]
theorem usedI_le (x : Nat → Int) : ∀ n, usedI x n ≤ n
  | 0 => Nat.le_refl _
  | n + 1 => by unfold usedI; have := usedI_le x n; split <;> omega
/-- Only one is used, and it is 1; or they are whole. -/
def LOk (x : Nat → Int) (n : Nat) : Prop := (usedI x n = 1 ∧ lastI x n = 1) ∨ (Fine n x ∧ kindOf (wT (natOf x) n) = 1)
theorem usedI_lx (l : List Nat) : ∀ n, usedI (lx l) n = usedT (fnL l) n
  | 0 => rfl
  | n + 1 => by
    unfold usedI usedT
    rw [usedI_lx l n]
    simp only [lx]
    by_cases h : fnL l n = 0
    · rw [if_neg (by omega), if_pos h]
    · rw [if_pos (by omega), if_neg h]
theorem lastI_lx (l : List Nat) : ∀ n, lastI (lx l) n = (lastT (fnL l) n : Int)
  | 0 => rfl
  | n + 1 => by
    unfold lastI lastT
    rw [lastI_lx l n]
    simp only [lx]
    by_cases h : fnL l n = 0
    · rw [if_neg (by omega), if_pos h]
    · rw [if_pos (by omega), if_neg h]
theorem lok_lx {l : List Nat} (h : l.length ≤ 300) (hs : Small l) : LOk (lx l) l.length ↔ lensOk (fnL l) l.length := by
  unfold LOk lensOk
  rw [usedI_lx, lastI_lx, natOf_lx]
  constructor
  · rintro (⟨a, b⟩ | ⟨_, c⟩)
    · exact .inl ⟨a, by omega⟩
    · exact .inr c
  · rintro (⟨a, b⟩ | c)
    · exact .inl ⟨a, by omega⟩
    · exact .inr ⟨fine_lx h hs, c⟩
open Classical in
/-- Of which kind any lengths are. -/
noncomputable def kindI (x : Nat → Int) (n : Nat) : Nat := if Fine n x then kindOf (wT (natOf x) n) else 3
theorem kindI_one (x : Nat → Int) (n : Nat) : kindI x n = 1 ↔ (Fine n x ∧ kindOf (wT (natOf x) n) = 1) := by
  unfold kindI
  split
  · rename_i h; simp [h]
  · rename_i h; simp [h]
theorem kindI_lx {l : List Nat} (h : l.length ≤ 300) (hs : Small l) : kindI (lx l) l.length = kindOf (wT (fnL l) l.length) := by
  unfold kindI
  rw [if_pos (fine_lx h hs), natOf_lx]
theorem kindI_le (x : Nat → Int) (n : Nat) : kindI x n ≤ 3 := by
  unfold kindI
  split
  · have := kindOf_lt (wT (natOf x) n); omega
  · omega
theorem kindW (A : Option Addr) (b off len cap : Nat) (x : Nat → Int) (w : World) (hA : 0 < len → A = some ⟨b, off, none⟩) (hx : Ints w b off len x) (hm : len ≤ 9223372036854775807) :
    Calls Try.prog 55 #[.slice A len cap] w fun e w' => e = .returned (.int .i64 (kindI x len : Nat)) ∧ Below w.heap.size w w' := by
  unfold kindI
  split
  · rename_i h; exact kind_yes A b off len cap x w hA hx h
  · rename_i h; exact kind_no A b off len cap x w hA hx hm h
theorem refKindW (A : Option Addr) (b off len cap : Nat) (x : Nat → Int) (w : World) (hA : 0 < len → A = some ⟨b, off, none⟩) (hx : Ints w b off len x) (hm : len ≤ 9223372036854775807) :
    Calls Try.prog 14 #[.slice A len cap] w fun e w' => e = .returned (.int .i64 (kindI x len : Nat)) ∧ w = w' := by
  unfold kindI
  split
  · rename_i h; exact refKind_yes A b off len cap x w hA hx h
  · rename_i h; exact refKind_no A b off len cap x w hA hx hm h
open Classical in
noncomputable def okB (x : Nat → Int) (n : Nat) : Bool := decide (LOk x n)
theorem okB_eq (x : Nat → Int) (n : Nat) : okB x n = ((usedI x n == 1 && lastI x n == 1) || kindI x n == 1) := by
  unfold okB LOk
  rw [← kindI_one]
  simp
  by_cases h1 : usedI x n = 1 <;> by_cases h2 : lastI x n = 1 <;> by_cases h3 : kindI x n = 1 <;> simp [h1, h2, h3]
set_option maxRecDepth 100000 in
set_option maxHeartbeats 1000000 in
theorem lengthsW (A : Option Addr) (b off len cap : Nat) (x : Nat → Int) (w : World) (hA : 0 < len → A = some ⟨b, off, none⟩) (hx : Ints w b off len x) (hm : len ≤ 1000000) :
    Calls Try.prog 27 #[.slice A len cap] w fun e w' => e = .returned (.bool (okB x len)) ∧ Below w.heap.size w w' := by
  have HX := hid hx
  have HA := hid hA
  have HK := hid (fun W (hw : Ints W b off len x) => kindW A b off len cap x W hA hw (by omega))
  have HO := hid (okB_eq x len)
  have HKL := hid (kindI_le x len)
  clear hx hA
  go_enter Try.func27, Try.ntmps27
  go_upto_region 3 with fail
  go_loop [3, 4, 9] (fun m s i => ∃ k : Nat, k ≤ len ∧ i = .int .i64 (k : Int) ∧ m = .int .i64 (usedI x k : Int) ∧ s = .int .i64 (lastI x k)) (fun _ _ i => len - (intOf i).toNat)
  case atStart => exact ⟨0, Nat.zero_le _, rfl, rfl, rfl⟩
  case round =>
    obtain ⟨k, hk, rfl, rfl, rfl⟩ := hrel
    by_cases hlt : k < len
    · obtain rfl := HA.out (by omega)
      have hc := HX.out.at_ k hlt
      have HU := hid (show usedI x (k + 1) = usedI x k + if 0 < x k then 1 else 0 from rfl)
      have HL := hid (show lastI x (k + 1) = if 0 < x k then x k else lastI x k from rfl)
      have hul := usedI_le x k
      have hlti : (k : Int) < (len : Int) := by omega
      generalize x k = y at hc HU HL
      generalize usedI x k = u at *
      generalize lastI x k = z at *
      by_cases hy : 0 < y
      · rw [if_pos hy] at HU HL
        have e1 : IntKind.i64.wrap ((u : Int) + 1) = ((u + 1 : Nat) : Int) := by rw [IntWalk.i64_in _ (by omega)]; omega
        go_wp2_with fail
        go_round
        case rel => exact ⟨k + 1, by omega, by go_num, val_int (by have := HU.out; omega), by rw [HL.out]⟩
        case measure => simp [intOf]; omega
      · rw [if_neg hy] at HU HL
        go_wp2_with fail
        go_round
        case rel => exact ⟨k + 1, by omega, by go_num, val_int (by have := HU.out; omega), by rw [HL.out]⟩
        case measure => simp [intOf]; omega
    · obtain rfl : k = len := by omega
      generalize usedI x k = u at *
      generalize lastI x k = z at *
      by_cases h1 : u = 1
      · by_cases h2 : z = 1
        · have HB := hid (show okB x k = true by rw [HO.out]; simp [h1, h2])
          subst h1 h2
          clear HO
          go_wp2_with fail
          go_ret
          exact ⟨ret_b HB.out.symm, Below.refl _ _⟩
        · have HB := hid (show okB x k = (kindI x k == 1) by rw [HO.out]; simp [h2])
          have b2 : (z == 1) = false := by simp [h2]
          subst h1
          clear HO
          go_wp2_with fail
          refine (HK.out _ HX.out).mono ?_
          rintro e w1 ⟨rfl, b1⟩
          have HB1 := hid b1
          clear b1
          generalize kindI x k = q at *
          go_wp2_with fail
          go_ret
          exact ⟨ret_b (by rw [HB.out]; exact (nat_beq q 1).symm), HB1.out⟩
      · have HB := hid (show okB x k = (kindI x k == 1) by rw [HO.out]; simp [h1])
        have b1 : ((u : Int) == 1) = false := by simp; omega
        clear HO
        go_wp2_with fail
        refine (HK.out _ HX.out).mono ?_
        rintro e w1 ⟨rfl, b1⟩
        have HB1 := hid b1
        clear b1
        generalize kindI x k = q at *
        go_wp2_with fail
        go_ret
        exact ⟨ret_b (by rw [HB.out]; exact (nat_beq q 1).symm), HB1.out⟩
set_option maxRecDepth 100000 in
set_option maxHeartbeats 1000000 in
theorem refLengthsW (A : Option Addr) (b off len cap : Nat) (x : Nat → Int) (w : World) (hA : 0 < len → A = some ⟨b, off, none⟩) (hx : Ints w b off len x) (hm : len ≤ 1000000) :
    Calls Try.prog 28 #[.slice A len cap] w fun e w' => e = .returned (.bool (okB x len)) ∧ w = w' := by
  have HX := hid hx
  have HA := hid hA
  have HK := hid (fun W (hw : Ints W b off len x) => refKindW A b off len cap x W hA hw (by omega))
  have HO := hid (okB_eq x len)
  have HKL := hid (kindI_le x len)
  clear hx hA
  go_enter Try.func28, Try.ntmps28
  go_upto_region 3 with fail
  go_loop [3, 4, 9] (fun m s i => ∃ k : Nat, k ≤ len ∧ i = .int .i64 (k : Int) ∧ m = .int .i64 (usedI x k : Int) ∧ s = .int .i64 (lastI x k)) (fun _ _ i => len - (intOf i).toNat)
  case atStart => exact ⟨0, Nat.zero_le _, rfl, rfl, rfl⟩
  case round =>
    obtain ⟨k, hk, rfl, rfl, rfl⟩ := hrel
    by_cases hlt : k < len
    · obtain rfl := HA.out (by omega)
      have hc := HX.out.at_ k hlt
      have HU := hid (show usedI x (k + 1) = usedI x k + if 0 < x k then 1 else 0 from rfl)
      have HL := hid (show lastI x (k + 1) = if 0 < x k then x k else lastI x k from rfl)
      have hul := usedI_le x k
      have hlti : (k : Int) < (len : Int) := by omega
      generalize x k = y at hc HU HL
      generalize usedI x k = u at *
      generalize lastI x k = z at *
      by_cases hy : 0 < y
      · rw [if_pos hy] at HU HL
        have e1 : IntKind.i64.wrap ((u : Int) + 1) = ((u + 1 : Nat) : Int) := by rw [IntWalk.i64_in _ (by omega)]; omega
        go_wp2_with fail
        go_round
        case rel => exact ⟨k + 1, by omega, by go_num, val_int (by have := HU.out; omega), by rw [HL.out]⟩
        case measure => simp [intOf]; omega
      · rw [if_neg hy] at HU HL
        go_wp2_with fail
        go_round
        case rel => exact ⟨k + 1, by omega, by go_num, val_int (by have := HU.out; omega), by rw [HL.out]⟩
        case measure => simp [intOf]; omega
    · obtain rfl : k = len := by omega
      generalize usedI x k = u at *
      generalize lastI x k = z at *
      generalize kindI x k = q at *
      by_cases hq : q = 1
      · have HB := hid (show okB x k = true by rw [HO.out]; simp [hq])
        subst hq
        clear HO
        go_wp2_with fail
        refine (HK.out _ HX.out).mono ?_
        rintro e w1 ⟨rfl, rfl⟩
        go_wp2_with fail
        go_ret
        exact ⟨ret_b HB.out.symm, rfl⟩
      · have b1 : ((q : Int) == 1) = false := by simp; omega
        by_cases h1 : u = 1
        · have HB := hid (show okB x k = (z == 1) by rw [HO.out]; simp [hq, h1])
          subst h1
          clear HO
          go_wp2_with fail
          refine (HK.out _ HX.out).mono ?_
          rintro e w1 ⟨rfl, rfl⟩
          go_wp2_with fail
          go_ret
          exact ⟨ret_b HB.out.symm, rfl⟩
        · have HB := hid (show okB x k = false by rw [HO.out]; simp [hq, h1])
          have b2 : ((u : Int) == 1) = false := by simp; omega
          clear HO
          go_wp2_with fail
          refine (HK.out _ HX.out).mono ?_
          rintro e w1 ⟨rfl, rfl⟩
          go_wp2_with fail
          go_ret
          exact ⟨ret_b HB.out.symm, rfl⟩
end Inf
end Go.Proofs.Ytlfohihmkfphhaa
