/- Commit: texts made whole sectors, both sides; a mark's sector. -/
import Derived.Test.YthgjijjalfhhcabDoorCoA
namespace Go.Proofs.YthgjijjalfhhcabDoor
set_option linter.unusedVariables false
open Go.RowKit
open Go.Proofs.Num
attribute [local go_sem ↓] Go.wp_at_zero Go.wp_at_succ
namespace Com
open Fld

/-- So many bytes 0. -/
def zeros (k : Nat) : ByteArray := ⟨(List.replicate k 0).toArray⟩
theorem zeros_size (k : Nat) : (zeros k).size = k := by
  show (List.replicate k 0).toArray.size = k
  simp
theorem zeros_none (s : ByteArray) : s ++ zeros 0 = s := by
  apply ByteArray.ext
  simp [zeros]
theorem zeros_more (s : ByteArray) (k : Nat) : (s ++ zeros k) ++ (⟨#[0]⟩ : ByteArray) = s ++ zeros (k + 1) := by
  apply ByteArray.ext
  apply Array.ext'
  simp [zeros, List.replicate_succ']
/-- How many are wanted. -/
def needN (n : Nat) : Nat := (512 - n % 512) % 512
def padB (s : ByteArray) : ByteArray := s ++ zeros (needN s.size)
theorem padB_size (s : ByteArray) : (padB s).size = s.size + needN s.size := by unfold padB; rw [ByteArray.size_append, zeros_size]
theorem need_whole (n : Nat) : (n + needN n) % 512 = 0 := by unfold needN; omega
theorem repeat_zero (c : Nat) : Lib.repeatL [0] c = List.replicate c 0 := by
  induction c with
  | zero => rfl
  | succ c ih =>
    show [0] ++ Lib.repeatL [0] c = _
    rw [ih, List.replicate_succ]
    rfl
theorem rep (c : Nat) (w : World) (hc : c ≤ 512) : Calls Tryd.prog 37 #[.string ⟨#[0]⟩, .int .i64 (c : Int)] w fun e w' => e = .returned (.string (zeros c)) ∧ Below w.heap.size w w' := by
  refine (Tryd.strings_Repeat ⟨#[0]⟩ c w (by omega) (by show 1 * c ≤ _; omega)).mono ?_
  have e : (⟨(Lib.repeatL (⟨#[0]⟩ : ByteArray).data.toList c).toArray⟩ : ByteArray) = zeros c := by
    show (⟨(Lib.repeatL [0] c).toArray⟩ : ByteArray) = _
    rw [repeat_zero]
    rfl
  rw [e]
  exact fun _ _ h => h

set_option maxRecDepth 100000 in
set_option maxHeartbeats 1000000 in
theorem pad (s : ByteArray) (w : World) (hs : s.size ≤ 1000000) : Calls Tryd.prog 18 #[.string s] w fun e w' => e = .returned (.string (padB s)) ∧ Below w.heap.size w w' := by
  have e0 : (s.size : Int).tmod 512 = ((s.size % 512 : Nat) : Int) := by rw [Int.tmod_eq_emod_of_nonneg (by omega)]; omega
  have hlt : s.size % 512 < 512 := Nat.mod_lt _ (by decide)
  by_cases h : s.size % 512 = 0
  · have hp : padB s = s := by unfold padB needN; rw [h]; exact zeros_none s
    have HP := hid hp
    rw [h] at e0
    have e1 : (s.size : Int).tmod 512 = 0 := e0
    clear hp e0
    go_enter Tryd.func18, Tryd.ntmps18
    go_wp2_with fail
    go_ret
    exact ⟨ret_str HP.out.symm, Below.refl _ _⟩
  · have hp : padB s = s ++ zeros (512 - s.size % 512) := by unfold padB needN; rw [Nat.mod_eq_of_lt (by omega : 512 - s.size % 512 < 512)]
    rw [hp]
    clear hp
    generalize s.size % 512 = r at e0 h hlt ⊢
    have e1 : (512 : Int) - (r : Int) = ((512 - r : Nat) : Int) := by omega
    have h1 : ((r : Int) == 0) = false := by simp; omega
    have HR := hid (fun W => rep (512 - r) W (by omega))
    have hz := zeros_size (512 - r)
    have hzs : ((zeros (512 - r)).size : Int) ≤ 512 := by omega
    clear hz
    generalize 512 - r = c at e1 HR hzs ⊢
    generalize zeros c = z at HR hzs ⊢
    have hss : (s.size : Int) ≤ 1000000 := by omega
    go_enter Tryd.func18, Tryd.ntmps18
    go_wp2_with fail
    refine (HR.out _).mono ?_
    rintro e w1 ⟨rfl, hb⟩
    have HB := hid hb
    clear hb
    go_wp2_with fail
    go_ret
    exact ⟨rfl, HB.out⟩

end Com
end Go.Proofs.YthgjijjalfhhcabDoor
