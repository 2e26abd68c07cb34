/- NodeRight: what is wrong with a node, both sides. -/
import Derived.Test.YtbbjjhcpeablcaaDoorNodA
import Derived.Test.YtbbjjhcpeablcaaDoorDosZ
import Derived.Test.YtbbjjhcpeablcaaDoorDosY
namespace Go.Proofs.YtbbjjhcpeablcaaDoor
set_option linter.unusedVariables false
open Go.RowKit
open Go.Proofs.Dos
attribute [local go_sem ↓] Go.wp_at_zero Go.wp_at_succ
namespace Nod

/-- What is wrong. -/
def badN (k m t : Int) (d : ByteArray) : Int :=
  if k < 0 ∨ 2 < k then 8 else if k = 0 then (if m = 0 ∧ t = 0 ∧ d.toList = [] then 0 else 1) else if k = 2 ∧ ¬ (d.toList = [] ∧ t = 0) then 1
  else if m < 0 ∨ 511 < m then 12 else if k = 1 ∧ fitsB (splitI t) = false then 13 else 0

theorem isE {d : ByteArray} (h : d.toList = []) : d.toList.isEmpty = true := by rw [h]; rfl
theorem isN {d : ByteArray} (h : ¬ d.toList = []) : d.toList.isEmpty = false := by
  cases hd : d.toList with
  | nil => exact absurd hd h
  | cons => rfl

theorem badN_cases (k m t : Int) (d : ByteArray) :
    (k < 0 ∧ badN k m t d = 8) ∨ (2 < k ∧ badN k m t d = 8) ∨
    (k = 0 ∧ ¬ m = 0 ∧ badN k m t d = 1) ∨ (k = 0 ∧ m = 0 ∧ ¬ t = 0 ∧ badN k m t d = 1) ∨ (k = 0 ∧ m = 0 ∧ t = 0 ∧ ¬ d.toList = [] ∧ badN k m t d = 1) ∨ (k = 0 ∧ m = 0 ∧ t = 0 ∧ d.toList = [] ∧ badN k m t d = 0) ∨
    (k = 2 ∧ ¬ d.toList = [] ∧ badN k m t d = 1) ∨ (k = 2 ∧ d.toList = [] ∧ ¬ t = 0 ∧ badN k m t d = 1) ∨ (k = 2 ∧ d.toList = [] ∧ t = 0 ∧ m < 0 ∧ badN k m t d = 12) ∨ (k = 2 ∧ d.toList = [] ∧ t = 0 ∧ 511 < m ∧ badN k m t d = 12) ∨
    (k = 2 ∧ d.toList = [] ∧ t = 0 ∧ 0 ≤ m ∧ m ≤ 511 ∧ badN k m t d = 0) ∨
    (k = 1 ∧ m < 0 ∧ badN k m t d = 12) ∨ (k = 1 ∧ 511 < m ∧ badN k m t d = 12) ∨ (k = 1 ∧ 0 ≤ m ∧ m ≤ 511 ∧ fitsB (splitI t) = false ∧ badN k m t d = 13) ∨ (k = 1 ∧ 0 ≤ m ∧ m ≤ 511 ∧ fitsB (splitI t) = true ∧ badN k m t d = 0) := by
  have hk : k < 0 ∨ 2 < k ∨ k = 0 ∨ k = 1 ∨ k = 2 := by omega
  have hm : m < 0 ∨ 511 < m ∨ (0 ≤ m ∧ m ≤ 511) := by omega
  rcases hk with h | h | rfl | rfl | rfl
  · exact .inl ⟨h, by unfold badN; rw [if_pos (.inl h)]⟩
  · exact .inr (.inl ⟨h, by unfold badN; rw [if_pos (.inr h)]⟩)
  · by_cases a : m = 0 <;> by_cases b : t = 0 <;> by_cases c : d.toList = [] <;> simp [badN, a, b, c]
  · rcases hm with h | h | ⟨h1, h2⟩
    · have h3 : ¬ 511 < m := by omega
      simp [badN, h]
    · have h3 : ¬ m < 0 := by omega
      simp [badN, h]
    · have h3 : ¬ m < 0 := by omega
      have h4 : ¬ 511 < m := by omega
      cases hf : fitsB (splitI t) <;> simp [badN, h1, h2, h3, h4, hf]
  · by_cases c : d.toList = [] <;> by_cases b : t = 0
    · rcases hm with h | h | ⟨h1, h2⟩
      · simp [badN, b, c, h]
      · simp [badN, b, c, h]
      · have h3 : ¬ m < 0 := by omega
        have h4 : ¬ 511 < m := by omega
        simp [badN, b, c, h1, h2, h3, h4]
    all_goals simp [badN, b, c]

set_option maxRecDepth 100000 in
theorem mode_yes (m : Int) (w : World) (h0 : 0 ≤ m) (h1 : m ≤ 511) : Calls Tryd.prog 12 #[.int .i64 m] w fun e w' => e = .returned (.bool true) ∧ w = w' := by
  go_enter Tryd.func12, Tryd.ntmps12
  go_wp2_with fail
  go_ret
  exact ⟨rfl, rfl⟩
set_option maxRecDepth 100000 in
theorem mode_neg (m : Int) (w : World) (h0 : m < 0) : Calls Tryd.prog 12 #[.int .i64 m] w fun e w' => e = .returned (.bool false) ∧ w = w' := by
  have h1 : ¬ 0 ≤ m := by omega
  go_enter Tryd.func12, Tryd.ntmps12
  go_wp2_with fail
  go_ret
  exact ⟨rfl, rfl⟩
set_option maxRecDepth 100000 in
theorem mode_big (m : Int) (w : World) (h0 : 511 < m) : Calls Tryd.prog 12 #[.int .i64 m] w fun e w' => e = .returned (.bool false) ∧ w = w' := by
  have h1 : 0 ≤ m := by omega
  have h2 : ¬ m ≤ 511 := by omega
  go_enter Tryd.func12, Tryd.ntmps12
  go_wp2_with fail
  go_ret
  exact ⟨rfl, rfl⟩

set_option maxRecDepth 100000 in
theorem time_ (t : Int) (w : World) (h0 : 0 ≤ t) (h1 : t < 4294967296) : Calls Tryd.prog 14 #[.int .u32 t] w fun e w' => e = .returned (.bool (fitsB (splitI t))) ∧ Below w.heap.size w w' := by
  have HR := hid (fun W => refRight (splitI t) W (split_ints h0 h1))
  have HE := hid (right_fits t)
  have HS := hid (fun W => refSplit t W h0 h1)
  go_enter Tryd.func14, Tryd.ntmps14
  go_wp2_with fail
  refine (HS.out _).mono ?_
  rintro e w1 ⟨rfl, b1⟩
  have B1 := hid b1
  clear b1
  go_wp2_with fail
  refine (HR.out _).mono ?_
  rw [← HE.out]
  rintro e w2 ⟨rfl, b2⟩
  have B2 := hid (B1.out.trans (b2.mono B1.out.size))
  clear b2
  go_wp2_with fail
  go_ret
  exact ⟨rfl, B2.out⟩

/-- A node's box. -/
structure Bx (w W : World) (k m t : Int) (d : ByteArray) : Prop where
  row : W.heap[w.heap.size]? = some (.cells #[.int .i64 k, .int .i64 m, .int .u32 t, .string d] 24 (0, 0))
  below : Below w.heap.size w W
theorem bx_new (w : World) (k m t : Int) (d : ByteArray) : Bx w (w.alloc (.cells #[.int .i64 k, .int .i64 m, .int .u32 t, .string d] 24)) k m t d := ⟨heap_alloc_new _ _, (Below.refl _ _).alloc (Nat.le_refl _) _⟩
theorem Bx.step {w W W' : World} {k m t : Int} {d : ByteArray} (h : Bx w W k m t d) (hb : Below W.heap.size W W') : Bx w W' k m t d := ⟨row_step h.row hb, h.below.trans (hb.mono h.below.size)⟩

set_option maxRecDepth 100000 in
set_option maxHeartbeats 4000000 in
theorem ref14 (k m t : Int) (d : ByteArray) (w : World) (hd : d.size ≤ 2000) (t0 : 0 ≤ t) (t1 : t < 4294967296) :
    Calls Tryd.prog 6 #[nodeV k m t d] w fun e w' => e = .returned (.int .i64 (badN k m t d)) ∧ Below w.heap.size w w' := by
  have HX := hid (bx_new w k m t d)
  go_enter Tryd.func6, Tryd.ntmps6
  go_upto_region 1 with fail
  generalize w.alloc (.cells #[.int .i64 k, .int .i64 m, .int .u32 t, .string d] 24) = W at HX ⊢
  obtain ⟨a0, a1, a2, a3⟩ := four_cells HX.out.row
  rcases badN_cases k m t d with ⟨c1, hv⟩ | ⟨c1, hv⟩ | ⟨rfl, c2, hv⟩ | ⟨rfl, rfl, c3, hv⟩ | ⟨rfl, rfl, rfl, c4, hv⟩ | ⟨rfl, rfl, rfl, c4, hv⟩ | ⟨rfl, c4, hv⟩ | ⟨rfl, c4, c3, hv⟩ | ⟨rfl, c4, rfl, c5, hv⟩ | ⟨rfl, c4, rfl, c5, hv⟩ | ⟨rfl, c4, rfl, c5, c6, hv⟩ | ⟨rfl, c5, hv⟩ | ⟨rfl, c5, hv⟩ | ⟨rfl, c5, c6, c7, hv⟩ | ⟨rfl, c5, c6, c7, hv⟩
  · have q1 : (k != 0) = true := by simp; omega
    have q2 : (k != 1) = true := by simp; omega
    have q3 : (k != 2) = true := by simp; omega
    have HV := hid hv
    clear hv
    have hz : ¬ (65000 : Int) < (d.size : Int) := by omega
    go_wp2_with fail
    go_ret
    exact ⟨ret_int HV.out.symm, HX.out.below⟩
  · have q0 : ¬ k < 0 := by omega
    have q1 : (k != 0) = true := by simp; omega
    have q2 : (k != 1) = true := by simp; omega
    have q3 : (k != 2) = true := by simp; omega
    have HV := hid hv
    clear hv
    have hz : ¬ (65000 : Int) < (d.size : Int) := by omega
    go_wp2_with fail
    go_ret
    exact ⟨ret_int HV.out.symm, HX.out.below⟩
  · have q1 : (m != 0) = true := by simp [c2]
    have HV := hid hv
    clear hv
    have hz : ¬ (65000 : Int) < (d.size : Int) := by omega
    go_wp2_with fail
    go_ret
    exact ⟨ret_int HV.out.symm, HX.out.below⟩
  · have q2 : (t != 0) = true := by simp [c3]
    have HV := hid hv
    clear hv
    have hz : ¬ (65000 : Int) < (d.size : Int) := by omega
    go_wp2_with fail
    go_ret
    exact ⟨ret_int HV.out.symm, HX.out.below⟩
  · have q3 := isN c4
    have HV := hid hv
    clear hv
    have hz : ¬ (65000 : Int) < (d.size : Int) := by omega
    go_wp2_with fail
    go_ret
    exact ⟨ret_int HV.out.symm, HX.out.below⟩
  · have q3 := isE c4
    have HV := hid hv
    clear hv
    have hz : ¬ (65000 : Int) < (d.size : Int) := by omega
    go_wp2_with fail
    go_ret
    exact ⟨ret_int HV.out.symm, HX.out.below⟩
  · have q3 := isN c4
    have HV := hid hv
    clear hv
    have hz : ¬ (65000 : Int) < (d.size : Int) := by omega
    go_wp2_with fail
    go_ret
    exact ⟨ret_int HV.out.symm, HX.out.below⟩
  · have q2 : (t != 0) = true := by simp [c3]
    have q3 := isE c4
    have HV := hid hv
    clear hv
    have hz : ¬ (65000 : Int) < (d.size : Int) := by omega
    go_wp2_with fail
    go_ret
    exact ⟨ret_int HV.out.symm, HX.out.below⟩
  · have q3 := isE c4
    have q4 : ¬ 0 ≤ m := by omega
    have HV := hid hv
    clear hv
    have hz : ¬ (65000 : Int) < (d.size : Int) := by omega
    go_wp2_with fail
    go_ret
    exact ⟨ret_int HV.out.symm, HX.out.below⟩
  · have q3 := isE c4
    have q4 : ¬ m < 0 := by omega
    have HV := hid hv
    clear hv
    have hz : ¬ (65000 : Int) < (d.size : Int) := by omega
    go_wp2_with fail
    go_ret
    exact ⟨ret_int HV.out.symm, HX.out.below⟩
  · have q3 := isE c4
    have q4 : ¬ m < 0 := by omega
    have q5 : ¬ 511 < m := by omega
    have HV := hid hv
    clear hv
    have hz : ¬ (65000 : Int) < (d.size : Int) := by omega
    go_wp2_with fail
    go_ret
    exact ⟨ret_int HV.out.symm, HX.out.below⟩
  · have q4 : ¬ 0 ≤ m := by omega
    have HV := hid hv
    clear hv
    have hz : ¬ (65000 : Int) < (d.size : Int) := by omega
    go_wp2_with fail
    go_ret
    exact ⟨ret_int HV.out.symm, HX.out.below⟩
  · have q4 : ¬ m < 0 := by omega
    have HV := hid hv
    clear hv
    have hz : ¬ (65000 : Int) < (d.size : Int) := by omega
    go_wp2_with fail
    go_ret
    exact ⟨ret_int HV.out.symm, HX.out.below⟩
  · have q4 : ¬ m < 0 := by omega
    have q5 : ¬ 511 < m := by omega
    have HV := hid hv
    clear hv
    have hz : ¬ (65000 : Int) < (d.size : Int) := by omega
    go_wp2_with fail
    refine (time_ t _ t0 t1).mono ?_
    rw [c7]
    rintro e w2 ⟨rfl, b2⟩
    have HX2 := hid (HX.out.step b2)
    clear b2 a0 a1 a2 a3
    obtain ⟨a0, a1, a2, a3⟩ := four_cells HX2.out.row
    go_wp2_with fail
    go_ret
    exact ⟨ret_int HV.out.symm, HX2.out.below⟩
  · have q4 : ¬ m < 0 := by omega
    have q5 : ¬ 511 < m := by omega
    have HV := hid hv
    clear hv
    have hz : ¬ (65000 : Int) < (d.size : Int) := by omega
    go_wp2_with fail
    refine (time_ t _ t0 t1).mono ?_
    rw [c7]
    rintro e w2 ⟨rfl, b2⟩
    have HX2 := hid (HX.out.step b2)
    clear b2 a0 a1 a2 a3
    obtain ⟨a0, a1, a2, a3⟩ := four_cells HX2.out.row
    go_wp2_with fail
    go_ret
    exact ⟨ret_int HV.out.symm, HX2.out.below⟩

set_option maxRecDepth 100000 in
set_option maxHeartbeats 4000000 in
theorem right14 (k m t : Int) (d : ByteArray) (w : World) (hT : Tab w) (hd : d.size ≤ 2000) (t0 : 0 ≤ t) (t1 : t < 4294967296) :
    Calls Tryd.prog 5 #[nodeV k m t d] w fun e w' => e = .returned (.int .i64 (badN k m t d)) ∧ Below w.heap.size w w' := by
  have HX := hid (bx_new w k m t d)
  go_enter Tryd.func5, Tryd.ntmps5
  go_upto_region 1 with fail
  generalize w.alloc (.cells #[.int .i64 k, .int .i64 m, .int .u32 t, .string d] 24) = W at HX ⊢
  obtain ⟨a0, a1, a2, a3⟩ := four_cells HX.out.row
  rcases badN_cases k m t d with ⟨c1, hv⟩ | ⟨c1, hv⟩ | ⟨rfl, c2, hv⟩ | ⟨rfl, rfl, c3, hv⟩ | ⟨rfl, rfl, rfl, c4, hv⟩ | ⟨rfl, rfl, rfl, c4, hv⟩ | ⟨rfl, c4, hv⟩ | ⟨rfl, c4, c3, hv⟩ | ⟨rfl, c4, rfl, c5, hv⟩ | ⟨rfl, c4, rfl, c5, hv⟩ | ⟨rfl, c4, rfl, c5, c6, hv⟩ | ⟨rfl, c5, hv⟩ | ⟨rfl, c5, hv⟩ | ⟨rfl, c5, c6, c7, hv⟩ | ⟨rfl, c5, c6, c7, hv⟩
  · have q1 : (k != 0) = true := by simp; omega
    have q2 : (k != 1) = true := by simp; omega
    have q3 : (k != 2) = true := by simp; omega
    have HV := hid hv
    clear hv
    have hz : ¬ (65000 : Int) < (d.size : Int) := by omega
    go_wp2_with fail
    go_ret
    exact ⟨ret_int HV.out.symm, HX.out.below⟩
  · have q0 : ¬ k < 0 := by omega
    have q1 : (k != 0) = true := by simp; omega
    have q2 : (k != 1) = true := by simp; omega
    have q3 : (k != 2) = true := by simp; omega
    have HV := hid hv
    clear hv
    have hz : ¬ (65000 : Int) < (d.size : Int) := by omega
    go_wp2_with fail
    go_ret
    exact ⟨ret_int HV.out.symm, HX.out.below⟩
  · have q1 : (m != 0) = true := by simp [c2]
    have HV := hid hv
    clear hv
    have hz : ¬ (65000 : Int) < (d.size : Int) := by omega
    go_wp2_with fail
    go_ret
    exact ⟨ret_int HV.out.symm, HX.out.below⟩
  · have q2 : (t != 0) = true := by simp [c3]
    have HV := hid hv
    clear hv
    have hz : ¬ (65000 : Int) < (d.size : Int) := by omega
    go_wp2_with fail
    go_ret
    exact ⟨ret_int HV.out.symm, HX.out.below⟩
  · have q3 := isN c4
    have HV := hid hv
    clear hv
    have hz : ¬ (65000 : Int) < (d.size : Int) := by omega
    go_wp2_with fail
    go_ret
    exact ⟨ret_int HV.out.symm, HX.out.below⟩
  · have q3 := isE c4
    have HV := hid hv
    clear hv
    have hz : ¬ (65000 : Int) < (d.size : Int) := by omega
    go_wp2_with fail
    refine (mode_yes 0 _ (by omega) (by omega)).mono ?_
    rintro e w1 ⟨rfl, rfl⟩
    go_wp2_with fail
    go_ret
    exact ⟨ret_int HV.out.symm, HX.out.below⟩
  · have q3 := isN c4
    have HV := hid hv
    clear hv
    have hz : ¬ (65000 : Int) < (d.size : Int) := by omega
    go_wp2_with fail
    go_ret
    exact ⟨ret_int HV.out.symm, HX.out.below⟩
  · have q2 : (t != 0) = true := by simp [c3]
    have q3 := isE c4
    have HV := hid hv
    clear hv
    have hz : ¬ (65000 : Int) < (d.size : Int) := by omega
    go_wp2_with fail
    go_ret
    exact ⟨ret_int HV.out.symm, HX.out.below⟩
  · have q3 := isE c4
    have q4 : ¬ 0 ≤ m := by omega
    have HV := hid hv
    clear hv
    have hz : ¬ (65000 : Int) < (d.size : Int) := by omega
    go_wp2_with fail
    refine (mode_neg m _ c5).mono ?_
    rintro e w1 ⟨rfl, rfl⟩
    go_wp2_with fail
    go_ret
    exact ⟨ret_int HV.out.symm, HX.out.below⟩
  · have q3 := isE c4
    have q4 : ¬ m < 0 := by omega
    have HV := hid hv
    clear hv
    have hz : ¬ (65000 : Int) < (d.size : Int) := by omega
    go_wp2_with fail
    refine (mode_big m _ c5).mono ?_
    rintro e w1 ⟨rfl, rfl⟩
    go_wp2_with fail
    go_ret
    exact ⟨ret_int HV.out.symm, HX.out.below⟩
  · have q3 := isE c4
    have q4 : ¬ m < 0 := by omega
    have q5 : ¬ 511 < m := by omega
    have HV := hid hv
    clear hv
    have hz : ¬ (65000 : Int) < (d.size : Int) := by omega
    go_wp2_with fail
    refine (mode_yes m _ c5 c6).mono ?_
    rintro e w1 ⟨rfl, rfl⟩
    go_wp2_with fail
    go_ret
    exact ⟨ret_int HV.out.symm, HX.out.below⟩
  · have q4 : ¬ 0 ≤ m := by omega
    have HV := hid hv
    clear hv
    have hz : ¬ (65000 : Int) < (d.size : Int) := by omega
    go_wp2_with fail
    refine (mode_neg m _ c5).mono ?_
    rintro e w1 ⟨rfl, rfl⟩
    go_wp2_with fail
    go_ret
    exact ⟨ret_int HV.out.symm, HX.out.below⟩
  · have q4 : ¬ m < 0 := by omega
    have HV := hid hv
    clear hv
    have hz : ¬ (65000 : Int) < (d.size : Int) := by omega
    go_wp2_with fail
    refine (mode_big m _ c5).mono ?_
    rintro e w1 ⟨rfl, rfl⟩
    go_wp2_with fail
    go_ret
    exact ⟨ret_int HV.out.symm, HX.out.below⟩
  · have q4 : ¬ m < 0 := by omega
    have q5 : ¬ 511 < m := by omega
    have HV := hid hv
    clear hv
    have hz : ¬ (65000 : Int) < (d.size : Int) := by omega
    go_wp2_with fail
    refine (mode_yes m _ c5 c6).mono ?_
    rintro e w1 ⟨rfl, rfl⟩
    go_wp2_with fail
    refine (right t _ (hT.below HX.out.below hT.lt HX.out.below.size) t0 t1).mono ?_
    rw [c7]
    rintro e w2 ⟨rfl, b2⟩
    have HX2 := hid (HX.out.step b2)
    clear b2 a0 a1 a2 a3
    obtain ⟨a0, a1, a2, a3⟩ := four_cells HX2.out.row
    go_wp2_with fail
    go_ret
    exact ⟨ret_int HV.out.symm, HX2.out.below⟩
  · have q4 : ¬ m < 0 := by omega
    have q5 : ¬ 511 < m := by omega
    have HV := hid hv
    clear hv
    have hz : ¬ (65000 : Int) < (d.size : Int) := by omega
    go_wp2_with fail
    refine (mode_yes m _ c5 c6).mono ?_
    rintro e w1 ⟨rfl, rfl⟩
    go_wp2_with fail
    refine (right t _ (hT.below HX.out.below hT.lt HX.out.below.size) t0 t1).mono ?_
    rw [c7]
    rintro e w2 ⟨rfl, b2⟩
    have HX2 := hid (HX.out.step b2)
    clear b2 a0 a1 a2 a3
    obtain ⟨a0, a1, a2, a3⟩ := four_cells HX2.out.row
    go_wp2_with fail
    go_ret
    exact ⟨ret_int HV.out.symm, HX2.out.below⟩

end Nod
end Go.Proofs.YtbbjjhcpeablcaaDoor
