/- Commit: texts made whole sectors, both sides; a mark's sector. -/
import Derived.Test.YthgjijjalfhhcaaDoorCoA
namespace Go.Proofs.YthgjijjalfhhcaaDoor
set_option linter.unusedVariables false
open Go.RowKit
open Go.Proofs.Num
attribute [local go_sem ↓] Go.wp_at_zero Go.wp_at_succ
namespace Com
open Fld

/-- So many bytes 0. -/
def zeros (k : Nat) : ByteArray := ⟨(List.replicate k 0).toArray⟩
theorem zeros_size (k : Nat) : (zeros k).size = k := by
  show (List.replicate k 0).toArray.size = k
  simp
theorem zeros_none (s : ByteArray) : s ++ zeros 0 = s := by
  apply ByteArray.ext
  simp [zeros]
theorem zeros_more (s : ByteArray) (k : Nat) : (s ++ zeros k) ++ (⟨#[0]⟩ : ByteArray) = s ++ zeros (k + 1) := by
  apply ByteArray.ext
  apply Array.ext'
  simp [zeros, List.replicate_succ']
/-- How many are wanted. -/
def needN (n : Nat) : Nat := (512 - n % 512) % 512
def padB (s : ByteArray) : ByteArray := s ++ zeros (needN s.size)
theorem padB_size (s : ByteArray) : (padB s).size = s.size + needN s.size := by unfold padB; rw [ByteArray.size_append, zeros_size]
theorem need_whole (n : Nat) : (n + needN n) % 512 = 0 := by unfold needN; omega
theorem repeat_zero (c : Nat) : Lib.repeatL [0] c = List.replicate c 0 := by
  induction c with
  | zero => rfl
  | succ c ih =>
    show [0] ++ Lib.repeatL [0] c = _
    rw [ih, List.replicate_succ]
    rfl
theorem rep (c : Nat) (w : World) (hc : c ≤ 512) : Calls Tryd.prog 29 #[.string ⟨#[0]⟩, .int .i64 (c : Int)] w fun e w' => e = .returned (.string (zeros c)) ∧ Below w.heap.size w w' := by
  refine (Tryd.strings_Repeat ⟨#[0]⟩ c w (by omega) (by show 1 * c ≤ _; omega)).mono ?_
  have e : (⟨(Lib.repeatL (⟨#[0]⟩ : ByteArray).data.toList c).toArray⟩ : ByteArray) = zeros c := by
    show (⟨(Lib.repeatL [0] c).toArray⟩ : ByteArray) = _
    rw [repeat_zero]
    rfl
  rw [e]
  exact fun _ _ h => h

set_option maxRecDepth 100000 in
set_option maxHeartbeats 1000000 in
theorem pad (s : ByteArray) (w : World) (hs : s.size ≤ 1000000) : Calls Tryd.prog 12 #[.string s] w fun e w' => e = .returned (.string (padB s)) ∧ Below w.heap.size w w' := by
  have e0 : (s.size : Int).tmod 512 = ((s.size % 512 : Nat) : Int) := by rw [Int.tmod_eq_emod_of_nonneg (by omega)]; omega
  have hlt : s.size % 512 < 512 := Nat.mod_lt _ (by decide)
  by_cases h : s.size % 512 = 0
  · have hp : padB s = s := by unfold padB needN; rw [h]; exact zeros_none s
    have HP := hid hp
    rw [h] at e0
    have e1 : (s.size : Int).tmod 512 = 0 := e0
    clear hp e0
    go_enter Tryd.func12, Tryd.ntmps12
    go_wp2_with fail
    go_ret
    exact ⟨ret_str HP.out.symm, Below.refl _ _⟩
  · have hp : padB s = s ++ zeros (512 - s.size % 512) := by unfold padB needN; rw [Nat.mod_eq_of_lt (by omega : 512 - s.size % 512 < 512)]
    rw [hp]
    clear hp
    generalize s.size % 512 = r at e0 h hlt ⊢
    have e1 : (512 : Int) - (r : Int) = ((512 - r : Nat) : Int) := by omega
    have h1 : ((r : Int) == 0) = false := by simp; omega
    have HR := hid (fun W => rep (512 - r) W (by omega))
    have hz := zeros_size (512 - r)
    have hzs : ((zeros (512 - r)).size : Int) ≤ 512 := by omega
    clear hz
    generalize 512 - r = c at e1 HR hzs ⊢
    generalize zeros c = z at HR hzs ⊢
    have hss : (s.size : Int) ≤ 1000000 := by omega
    go_enter Tryd.func12, Tryd.ntmps12
    go_wp2_with fail
    refine (HR.out _).mono ?_
    rintro e w1 ⟨rfl, hb⟩
    have HB := hid hb
    clear hb
    go_wp2_with fail
    go_ret
    exact ⟨rfl, HB.out⟩

set_option maxRecDepth 100000 in
set_option maxHeartbeats 1000000 in
theorem refPad (s : ByteArray) (w : World) (hs : s.size ≤ 1000000) : Calls Tryd.prog 11 #[.string s] w fun e w' => e = .returned (.string (padB s)) ∧ w = w' := by
  have HN := hid (show s.size + needN s.size ≤ 1001000 by unfold needN; omega)
  go_enter Tryd.func11, Tryd.ntmps11
  go_wp2_with fail
  go_loop [3] (fun n => ∃ k : Nat, n = .int .i64 ((512 * k : Nat) : Int) ∧ (k = 0 ∨ 512 * (k - 1) < s.size)) (fun n => s.size - (intOf n).toNat)
  case atStart => exact ⟨0, rfl, .inl rfl⟩
  case round =>
    obtain ⟨k, rfl, hk⟩ := hrel
    by_cases hlt : 512 * k < s.size
    · have h1 : ((512 * k : Nat) : Int) < (s.size : Int) := by omega
      go_wp2_with fail
      go_round
      case rel => exact ⟨k + 1, by go_num, .inr (by omega)⟩
      case measure => simp [intOf]; omega
    · have h1 : ¬ ((512 * k : Nat) : Int) < (s.size : Int) := by omega
      have HK := hid (show 512 * k = s.size + needN s.size by unfold needN; omega)
      obtain ⟨n, hn⟩ : ∃ n, 512 * k = n := ⟨_, rfl⟩
      rw [hn] at HK h1 ⊢
      clear hn hk hlt
      go_wp2_with fail
      go_loop [0] (fun v => ∃ j : Nat, v = .string (s ++ zeros j) ∧ s.size + j ≤ n) (fun v => n - (match v with | .string x => x.size | _ => 0))
      case atStart => exact ⟨0, by rw [zeros_none], by have := HK.out; omega⟩
      case round =>
        obtain ⟨j, rfl, hj⟩ := hrel
        have hz : (s ++ zeros j).size = s.size + j := by rw [ByteArray.size_append, zeros_size]
        have HM := hid (zeros_more s j)
        have hx0 : s ++ zeros j = s ++ zeros j := rfl
        obtain ⟨x, hx⟩ : ∃ x, s ++ zeros j = x := ⟨_, rfl⟩
        have HX0 := hid hx.symm
        rw [hx] at hz HM ⊢
        clear hx hx0
        by_cases hlt : s.size + j < n
        · have h2 : (x.size : Int) < (n : Int) := by omega
          have hxs : (x.size : Int) ≤ 1001000 := by have := HN.out; have := HK.out; omega
          have HZ := hid hz
          clear hz
          go_wp2_with fail
          go_round
          case rel => exact ⟨j + 1, val_str HM.out, by omega⟩
          case measure =>
            have h3 : (x ++ (⟨#[0]⟩ : ByteArray)).size = x.size + 1 := by rw [ByteArray.size_append]; rfl
            have h4 := HZ.out
            simp [h3]; omega
        · have h2 : ¬ (x.size : Int) < (n : Int) := by omega
          have HX := hid (show x = padB s by
            have h5 : j = needN s.size := by have := HK.out; omega
            have h6 := HX0.out
            rw [h5] at h6
            exact h6)
          clear hz
          go_wp2_with fail
          go_ret
          exact ⟨ret_str HX.out, rfl⟩
end Com
end Go.Proofs.YthgjijjalfhhcaaDoor
