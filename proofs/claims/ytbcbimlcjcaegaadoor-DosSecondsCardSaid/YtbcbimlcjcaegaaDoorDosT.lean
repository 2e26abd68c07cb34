/- WALKS: texts of times. -/
import Derived.Test.YtbcbimlcjcaegaaDoorDosS
import Derived.Test.YtbcbimlcjcaegaaDoorShelf
import Derived.Lib.AppendIntMem
namespace Go.Proofs.YtbcbimlcjcaegaaDoor
set_option linter.unusedVariables false
open Go.RowKit
open Go.Proofs.Dos
attribute [local go_sem ↓] Go.wp_at_zero Go.wp_at_succ

/-- The powers of ten lie in the world. -/
def Pow (w : World) : Prop := Lib.TabIs Tryd.prog w "internal/strconv.uint64pow10" .u64 Lib.pow10Tab
theorem Pow.step {w w' : World} (h : Pow w) (hB : Below w.heap.size w w') : Pow w' := Lib.tabBelow_of_tabIs h w' hB
theorem Pow.alloc {w : World} (h : Pow w) (o : Obj) : Pow (w.alloc o) := h.step ((Below.refl _ _).alloc (Nat.le_refl _) _)
theorem below_grow (w : World) (q : Nat) (os : Array Obj) : Below w.heap.size w (Sort.grow (w.drewN q) os) :=
  ⟨rfl, rfl, rfl, by show w.heap.size ≤ (w.heap ++ os).size; simp, fun i hi => by
    show (w.heap ++ os)[i]? = _
    rw [Array.getElem?_append_left (by omega)]⟩

/-- Two digits. -/
def two (n : Nat) : ByteArray := ⟨#[UInt8.ofNat (48 + n / 10), UInt8.ofNat (48 + n % 10)]⟩
/-- One digit. -/
def one (n : Nat) : ByteArray := ⟨#[UInt8.ofNat (48 + n)]⟩
/-- Four digits. -/
def four (n : Nat) : ByteArray := ⟨#[UInt8.ofNat (48 + n / 1000), UInt8.ofNat (48 + n / 100 % 10), UInt8.ofNat (48 + n / 10 % 10), UInt8.ofNat (48 + n % 10)]⟩

theorem dec_one {n : Nat} (h : n < 10) : (⟨(Lib.decDigits n).toArray⟩ : ByteArray) = one n := by rw [Lib.decDigits_one h]; rfl
theorem dec_two {n : Nat} (h1 : ¬ n < 10) (h2 : n < 100) : (⟨(Lib.decDigits n).toArray⟩ : ByteArray) = two n := by rw [Lib.decDigits_two h1 h2]; rfl
theorem dec_step {n : Nat} (h : ¬ n < 10) : Lib.decDigits n = Lib.decDigits (n / 10) ++ [UInt8.ofNat (48 + n % 10)] := by rw [Lib.decDigits, dif_neg h]
theorem dec_four {n : Nat} (h1 : 1000 ≤ n) (h2 : n < 10000) : (⟨(Lib.decDigits n).toArray⟩ : ByteArray) = four n := by
  rw [dec_step (by omega), dec_step (n := n / 10) (by omega), dec_step (n := n / 10 / 10) (by omega), Lib.decDigits_one (by omega)]
  unfold four
  have e1 : n / 10 / 10 / 10 = n / 1000 := by omega
  have e2 : n / 10 / 10 = n / 100 := by omega
  rw [e1, e2]; rfl
theorem one_pad {n : Nat} (h : n < 10) : (⟨#[48]⟩ : ByteArray) ++ one n = two n := by
  have e1 : n / 10 = 0 := by omega
  have e2 : n % 10 = n := by omega
  unfold one two
  rw [e1, e2]
  apply ByteArray.ext
  simp
theorem one_size (n : Nat) : (one n).size = 1 := rfl
theorem two_size (n : Nat) : (two n).size = 2 := rfl
theorem four_size (n : Nat) : (four n).size = 4 := rfl

set_option maxRecDepth 100000 in
/-- A number below 100 with two digits. -/
theorem padded2 (n : Nat) (h : n < 100) (w : World) :
    Calls Tryd.prog 53 #[.int .i64 (n : Int), .int .i64 2] w fun e w' => e = .returned (.string (two n)) ∧ w = w' := by
  by_cases c : n < 10
  · have HI := hid (Tryd.strconv_Itoa_small n h w)
    rw [dec_one c] at HI
    have HP := hid (one_pad c)
    have h1 := one_size n
    have h2 := two_size n
    generalize one n = A at HI HP h1
    generalize two n = B at HP h2 ⊢
    go_enter Tryd.func53, Tryd.ntmps53
    go_wp2_with (go_at_call 68; refine HI.out.mono ?_; rintro e w' ⟨rfl, rfl⟩)
    go_loop [5] (fun s => s = .string A ∨ s = .string B) (fun s => 2 - (match s with | .string x => x.size | _ => 0))
    case atStart => exact .inl rfl
    case round =>
      rcases hrel with rfl | rfl
      · go_wp2_with fail
        go_round
        case rel => exact .inr (val_str HP.out)
        case measure => simp [h1, HP.out, h2]
      · go_wp2_with fail
        go_ret
        exact ⟨rfl, rfl⟩
  · have HI := hid (Tryd.strconv_Itoa_small n h w)
    rw [dec_two c h] at HI
    have h2 := two_size n
    generalize two n = B at HI h2 ⊢
    go_enter Tryd.func53, Tryd.ntmps53
    go_wp2_with (go_at_call 68; refine HI.out.mono ?_; rintro e w' ⟨rfl, rfl⟩)
    go_loop [5] (fun s => s = .string B) (fun s => 0)
    case atStart => rfl
    case round =>
      obtain rfl := hrel
      go_wp2_with fail
      go_ret
      exact ⟨rfl, rfl⟩

set_option maxRecDepth 100000 in
/-- A year with four digits. -/
theorem padded4 (n : Nat) (h1 : 1000 ≤ n) (h2 : n < 10000) (w : World) (hP : Pow w) :
    Calls Tryd.prog 53 #[.int .i64 (n : Int), .int .i64 4] w fun e w' => e = .returned (.string (four n)) ∧ Below w.heap.size w w' := by
  have HI := hid (Tryd.strconv_Itoa n (by omega) (by omega) w hP)
  rw [Lib.itoa_nonneg, dec_four h1 h2] at HI
  have h4 := four_size n
  generalize four n = B at HI h4 ⊢
  go_enter Tryd.func53, Tryd.ntmps53
  go_wp2_with (go_at_call 68; refine HI.out.mono ?_; rintro e w' ⟨rfl, k, os, rfl⟩)
  have HB := hid (below_grow w k os)
  generalize Sort.grow (w.drewN k) os = W at HB ⊢
  go_loop [5] (fun s => s = .string B) (fun s => 0)
  case atStart => rfl
  case round =>
    obtain rfl := hrel
    go_wp2_with fail
    go_ret
    exact ⟨rfl, HB.out⟩
end Go.Proofs.YtbcbimlcjcaegaaDoor
