/- WALKS over numbers as bytes: the document's own, and the program's. -/
import Derived.Test.YthgjijjalfhhcabDoorProg
import Derived.Test.YthgjijjalfhhcabDoorEnM
import Derived.WalkKit
import Derived.WalkSpells
import Derived.WalkLawsBesides
import Derived.Laws.Rows
import Derived.Laws.IdiomStrings
import Derived.Deep.DeepCutAuto
namespace Go.Proofs.YthgjijjalfhhcabDoor
set_option linter.unusedVariables false
open Go.RowKit
open Go.Proofs.Num
namespace Fld

theorem hid {p : Prop} (h : p) : Hid p := h
theorem val_int {k : IntKind} {a b : Int} (h : a = b) : Value.int k a = .int k b := by rw [h]
theorem val_str {a b : ByteArray} (h : a = b) : Value.string a = .string b := by rw [h]
theorem ret_str {a b : ByteArray} (h : a = b) : Ending.returned (.string a) = .returned (.string b) := by rw [h]

/-- The bytes of a number, as a text. -/
def putB (n : Nat) (k : Nat) : ByteArray := ⟨(putL n k).toArray⟩
theorem putB_zero (n : Nat) : putB n 0 = ⟨#[]⟩ := rfl

theorem und51 : Tryd.prog.underlying 28 = some (.slice 5) := by kernel_rfl

/-- A block whose first k cells are the bytes of n. -/
def IsBytes (w : World) (g n k : Nat) : Prop := ∃ cs : Array Value, w.heap[g]? = some (.cells cs 109 (0, 0)) ∧ cs.size = 8 ∧ ∀ j, j < k → cs[j]? = some (.int .u8 ((n / 256 ^ j % 256 : Nat) : Int))

theorem conv_one (x : Nat) (w : World) : (convert 28 9 (.slice (some ⟨w.heap.size, 0, none⟩) 1 1)).run Tryd.prog (w.alloc (.cells #[.int .u8 ((x : Int) % 256)] 5)) = .ok (.string ⟨#[UInt8.ofNat (x % 256)]⟩) (w.alloc (.cells #[.int .u8 ((x : Int) % 256)] 5)) := by
  refine run_convert_bytes_back _ 28 9 5 ⟨w.heap.size, 0, none⟩ 1 [UInt8.ofNat (x % 256)] und51 Tryd.underlying5 Tryd.underlying9 ?_
  intro j hj
  have : j = 0 := by simp at hj; omega
  subst this
  show (w.alloc _).cell? ⟨w.heap.size, 0, none⟩ = _
  rw [cell_of_row _ _ _ _ _ _ (heap_alloc_new _ _)]
  simp only [List.getElem_cons_zero]
  rw [byte_toNat _ (Nat.mod_lt _ (by decide))]
  rfl

theorem IsBytes.set {w : World} {g n k : Nat} (h : IsBytes w g n k) (hk : k < 8) : IsBytes (w.setCell ⟨g, k, none⟩ (.int .u8 ((n / 256 ^ k % 256 : Nat) : Int))) g n (k + 1) := by
  obtain ⟨cs, h1, h2, h3⟩ := h
  refine ⟨cs.setIfInBounds k (.int .u8 ((n / 256 ^ k % 256 : Nat) : Int)), heap_setCell_same w g k cs 109 _ h1, by simpa using h2, ?_⟩
  intro j hj
  rw [Array.getElem?_setIfInBounds]
  by_cases e : k = j
  · subst e; simp [h2, hk]
  · rw [if_neg e]; exact h3 j (by omega)
theorem IsBytes.there {w : World} {g n k : Nat} (h : IsBytes w g n k) (j : Nat) (hk : j < 8) : ∃ v, w.cell? ⟨g, j, none⟩ = some v := by
  obtain ⟨cs, h1, h2, h3⟩ := h
  exact ⟨cs[j], by rw [cell_of_row w g j cs 109 (0, 0) h1]; simp [h2, hk]⟩
theorem IsBytes.free {w : World} {g n k : Nat} (h : IsBytes w g n k) (j : Nat) : w.frozen? ⟨g, j, none⟩ = false := by
  obtain ⟨cs, h1, h2, h3⟩ := h
  exact frozen_of_row w g j cs 109 h1
theorem IsBytes.conv {w : World} {g n k : Nat} (h : IsBytes w g n k) (cap : Nat) : (convert 28 9 (.slice (some ⟨g, 0, none⟩) k cap)).run Tryd.prog w = .ok (.string (putB n k)) w := by
  have h0 := run_convert_bytes_back (P := Tryd.prog) w 28 9 5 ⟨g, 0, none⟩ cap (putL n k) und51 Tryd.underlying5 Tryd.underlying9 (by
    intro j hj
    rw [putL_length] at hj
    obtain ⟨cs, h1, h2, h3⟩ := h
    have hadd : (⟨g, 0, none⟩ : Addr).add j = ⟨g, j, none⟩ := by unfold Addr.add; split <;> simp_all
    rw [hadd, cell_of_row w g j cs 109 (0, 0) h1, h3 j hj, putL_at n k j hj, byte_toNat _ (Nat.mod_lt _ (by decide))])
  rw [putL_length] at h0
  exact h0

theorem byte_eq (n k : Nat) : ((n : Int) / 2 ^ (8 * k) % 256) = ((n / 256 ^ k % 256 : Nat) : Int) := by
  rw [← pow256]
  have e : ((n : Int) / 2 ^ (8 * k)) = ((n / 2 ^ (8 * k) : Nat) : Int) := by simp
  rw [e]; rfl

theorem und138 : Tryd.prog.underlying 109 = some (.array 8 5) := by kernel_rfl
theorem und138' : Tryd.prog.underlying 109 = some (.array (Tryd.prog.arrayLen 109) (Tryd.prog.elem 109)) := by kernel_rfl
theorem len138 : Tryd.prog.arrayLen 109 = 8 := by kernel_rfl
theorem size5 (w : World) : (sizeOf (Tryd.prog.elem 109)).run Tryd.prog w = .ok 1 w := by kernel_rfl
theorem slice138 (g k : Nat) (h : k ≤ 8) (w : World) : (Instr.sliceAt 109 (.pointer (some ⟨g, 0, none⟩)) none (some (.int .i64 (k : Int))) none).run Tryd.prog w = .ok (.slice (some ⟨g, 0, none⟩) k 8) w := by
  rw [run_sliceAt_array_h w 109 ⟨g, 0, none⟩ und138' .i64 (k : Int) (by omega) (by rw [len138]; omega), size5 w, len138]
  simp only [Result.andThen_ok, slicedAt, Int.toNat_natCast, Nat.zero_mul]
  have e : (⟨g, 0, none⟩ : Addr).add 0 = ⟨g, 0, none⟩ := by unfold Addr.add; split <;> simp_all
  simp [e]

theorem putB_snoc (n k : Nat) : putB n k ++ ⟨#[UInt8.ofNat (n / 256 ^ k % 256)]⟩ = putB n (k + 1) := by
  unfold putB
  rw [putL_succ]
  apply ByteArray.ext
  simp
theorem putB_size (n k : Nat) : (putB n k).size = k := by
  unfold putB ByteArray.size
  simp [putL_length]

set_option maxRecDepth 100000 in
set_option maxHeartbeats 400000 in
/-- The program's bytes. -/
theorem put (n : Nat) (wide : Int) (w : World) (h1 : n ≤ 18446744073709551615) (hw0 : -9223372036854775808 ≤ wide) (hw1 : wide ≤ 9223372036854775807) :
    Calls Tryd.prog 38 #[.int .u64 (n : Int), .int .i64 wide] w fun e w' => e = .returned (.string (putB n (wideN wide))) ∧ Below w.heap.size w w' := by
  have HM := hid (show ((wideN wide : Nat) : Int) = min (max wide 0) 8 by unfold wideN; omega)
  go_enter Tryd.func38, Tryd.ntmps38
  go_upto_region 2 with fail
  go_cut [1] (fun s1 wx => s1 = .int .i64 (wideN wide : Nat) ∧ Below w.heap.size w wx ∧ wx.heap.size = w.heap.size + 1 ∧ IsBytes wx w.heap.size n 0)
  case first =>
    go_wp2
    all_goals go_meet
    all_goals exact ⟨val_int (by rw [HM.out]; omega), (Below.refl _ _).alloc (Nat.le_refl _) _, by simp, ⟨_, heap_alloc_new _ _, rfl, fun j hj => by omega⟩⟩
  case rest =>
    obtain ⟨rfl, hB, hsz, htab⟩ := hcut
    have HB := hid hB
    have HS := hid hsz
    have HT := hid htab
    clear hB hsz htab HM
    have hw8 := wide_le wide
    generalize hN : wideN wide = N at hw8 ⊢
    have HNN := hid hN; clear hN
    go_wp2_with fail
    go_loopw [6, 11] (fun _ i wr => ∃ k : Nat, k ≤ N ∧ i = .int .i64 k ∧ Below w.heap.size w wr ∧ IsBytes wr w.heap.size n k) (fun _ i _ => N - (intOf i).toNat)
    case atStart => exact ⟨0, by omega, rfl, HB.out, HT.out⟩
    case round =>
      obtain ⟨k, hk, rfl, hB, htab⟩ := hrel
      have HB := hid hB
      have HT := hid htab
      clear hB htab
      by_cases hlt : k < N
      · obtain ⟨v, hv⟩ := HT.out.there k (by omega)
        have hf := HT.out.free k
        have HV := hid (byte_eq n k)
        go_wp2_with fail
        go_roundw
        case rel => exact ⟨k + 1, by omega, by go_num, HB.out.setCell (by simp) _, by rw [HV.out]; exact HT.out.set (by omega)⟩
        case measure => simp [intOf]; omega
      · obtain rfl : k = N := by omega
        have hc := HT.out.conv 8
        have hsl := slice138 w.heap.size k hw8 wr
        go_wp2_with fail
        go_ret
        exact ⟨ret_str (by rw [HNN.out]), HB.out⟩
end Fld
end Go.Proofs.YthgjijjalfhhcabDoor
