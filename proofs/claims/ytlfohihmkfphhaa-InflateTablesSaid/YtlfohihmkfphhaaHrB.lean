/- WALKS over the document's reader of bits. -/
import Derived.Test.YtlfohihmkfphhaaHrA
namespace Go.Proofs.Ytlfohihmkfphhaa
set_option linter.unusedVariables false
open Go.RowKit
open Go.Proofs.Huf
attribute [local go_sem ↓] Go.wp_at_zero Go.wp_at_succ
namespace Huff

theorem half2 (b k : Nat) : ((b / 2 ^ k : Nat) : Int) / 2 = ((b / 2 ^ (k + 1) : Nat) : Int) := by
  rw [Nat.pow_succ, ← Nat.div_div_eq_div_mul]; omega

set_option maxRecDepth 100000 in
set_option maxHeartbeats 400000 in
theorem refBit (s : ByteArray) (p : Nat) (w : World) (hs : s.size ≤ 1048576) (hp : p < 8 * s.size) :
    Calls Try.prog 49 #[.string s, .int .i64 (p : Int)] w fun e w' => e = .returned (.int .u32 ((bitN (numS s) p : Nat) : Int)) ∧ w' = w := by
  obtain ⟨q, hqd⟩ : ∃ q, q = p / 8 := ⟨_, rfl⟩
  obtain ⟨r, hrd⟩ : ∃ r, r = p % 8 := ⟨_, rfl⟩
  have hq : q < s.size := by omega
  have hb := bit_byte (numS s) p
  rw [← hqd, ← hrd] at hb
  have HB := hid hb
  have HS := hid (numS_byte s q hq)
  have e8 : (p : Int) / 8 = (q : Int) := by omega
  have e8m : (p : Int) % 8 = (r : Int) := by omega
  have hc := UInt8.toNat_lt s[q]
  have hm : r < 8 := by omega
  clear hb hqd hrd
  go_enter Try.func49, Try.ntmps49
  go_wp2_with fail
  generalize s[q].toNat = c at hc HS ⊢
  go_loop [5, 6] (fun b i => ∃ k : Nat, k ≤ r ∧ i = .int .i64 k ∧ b = .int .i64 ((c / 2 ^ k : Nat) : Int)) (fun _ i => r - (intOf i).toNat)
  case atStart => exact ⟨0, by omega, rfl, val_int (by simp)⟩
  case round =>
    obtain ⟨k, hk, rfl, rfl⟩ := hrel
    have HH := hid (half2 c k)
    have hck : c / 2 ^ k ≤ c := Nat.div_le_self _ _
    by_cases hlt : k < r
    · generalize c / 2 ^ k = d at HH hck ⊢
      go_wp2_with fail
      go_round
      case rel => exact ⟨k + 1, by omega, by go_num, val_int HH.out⟩
      case measure => simp [intOf]; omega
    · obtain rfl : k = r := by omega
      have HE := hid (show c / 2 ^ k % 2 = bitN (numS s) p from by rw [HS.out]; exact HB.out)
      generalize c / 2 ^ k = d at HE hck ⊢
      go_wp2_with fail
      go_ret
      exact ⟨ret_int (by rw [← HE.out]; omega), rfl⟩

/-- The document's reader. -/
def Rf (w : World) (g : Nat) (s : ByteArray) (p : Nat) (bad : Bool) : Prop := w.heap[g]? = some (.cells #[.string s, .int .i64 (p : Int), .bool bad] 44 (0, 0))
theorem Rf.c0 {w : World} {g : Nat} {s : ByteArray} {p : Nat} {bad : Bool} (h : Rf w g s p bad) : w.cell? ⟨g, 0, none⟩ = some (.string s) := by rw [cell_of_row w g 0 _ 44 (0, 0) h]; rfl
theorem Rf.c1 {w : World} {g : Nat} {s : ByteArray} {p : Nat} {bad : Bool} (h : Rf w g s p bad) : w.cell? ⟨g, 1, none⟩ = some (.int .i64 (p : Int)) := by rw [cell_of_row w g 1 _ 44 (0, 0) h]; rfl
theorem Rf.c2 {w : World} {g : Nat} {s : ByteArray} {p : Nat} {bad : Bool} (h : Rf w g s p bad) : w.cell? ⟨g, 2, none⟩ = some (.bool bad) := by rw [cell_of_row w g 2 _ 44 (0, 0) h]; rfl
theorem Rf.free {w : World} {g : Nat} {s : ByteArray} {p : Nat} {bad : Bool} (h : Rf w g s p bad) (i : Nat) : w.frozen? ⟨g, i, none⟩ = false := frozen_of_row w g i _ 44 h
theorem Rf.go {w : World} {g : Nat} {s : ByteArray} {p : Nat} {bad : Bool} (h : Rf w g s p bad) (q : Nat) : Rf (w.setCell ⟨g, 1, none⟩ (.int .i64 (q : Int))) g s q bad := heap_setCell_same w g 1 _ 44 _ h
theorem Rf.break {w : World} {g : Nat} {s : ByteArray} {p : Nat} {bad : Bool} (h : Rf w g s p bad) : Rf (w.setCell ⟨g, 2, none⟩ (.bool true)) g s p true := heap_setCell_same w g 2 _ 44 _ h

/-- What a step leaves of the document's reader. -/
structure LeftF (w : World) (g : Nat) (s : ByteArray) (p : Nat) (bad : Bool) (w' : World) : Prop where
  rf : Rf w' g s p bad
  only : Only g w w'

set_option maxRecDepth 100000 in
set_option maxHeartbeats 1000000 in
theorem refBit1 (g : Nat) (s : ByteArray) (p : Nat) (w : World) (h : Rf w g s p false) (hs : s.size ≤ 1048576) (hp : p < 8 * s.size) :
    Calls Try.prog 24 #[.pointer (some ⟨g, 0, none⟩), .int .i64 1] w fun e w' => e = .returned (.int .u32 ((bitN (numS s) p : Nat) : Int)) ∧ LeftF w g s (p + 1) false w' := by
  have HR := hid h
  have hc0 := h.c0
  have hc1 := h.c1
  have hc2 := h.c2
  have hb := bitN_lt (numS s) p
  have hbit : ∀ W, Calls Try.prog 49 #[.string s, .int .i64 (p : Int)] W fun e w' => e = .returned (.int .u32 ((bitN (numS s) p : Nat) : Int)) ∧ w' = W := fun W => refBit s p W hs hp
  have HBT := hid hbit
  clear h hbit
  generalize bitN (numS s) p = b at hb HBT ⊢
  have e1 : IntKind.i64.wrap (8 * (s.size : Int)) = 8 * (s.size : Int) := by rw [IntKind.wrap_i64]; omega
  have e2 : IntKind.i64.wrap (8 * (s.size : Int) - (p : Int)) = 8 * (s.size : Int) - (p : Int) := by rw [IntKind.wrap_i64]; omega
  have g1 : decide (8 * (s.size : Int) - (p : Int) < 1) = false := by rw [decide_eq_false_iff_not]; omega
  go_enter Try.func24, Try.ntmps24
  go_upto_region 1 with fail
  go_quiet (fail)
  clear e1 e2 g1
  go_wp2_with fail
  have HL := hid (show LeftF w g s p false (w.drewN nq) from ⟨HR.out, Only.drewN _ _ _⟩)
  generalize w.drewN nq = W0 at HL ⊢
  clear hc0 hc1 hc2
  go_loopw [5, 6, 7] (fun v one i wr => (i = .int .i64 0 ∧ v = .int .u64 0 ∧ one = .int .u64 1 ∧ LeftF w g s p false wr) ∨ (i = .int .i64 1 ∧ v = .int .u64 (b : Int) ∧ one = .int .u64 2 ∧ LeftF w g s (p + 1) false wr)) (fun _ _ i _ => 1 - (intOf i).toNat)
  case atStart => exact .inl ⟨rfl, rfl, rfl, HL.out⟩
  case round =>
    rcases hrel with ⟨rfl, rfl, rfl, hl⟩ | ⟨rfl, rfl, rfl, hl⟩
    · have HW := hid hl
      have hc0 := hl.rf.c0
      have hc1 := hl.rf.c1
      clear hl
      have e3 : IntKind.u64.wrap (b : Int) = (b : Int) := by rw [IntKind.wrap_u64]; omega
      go_wp2_with fail
      go_quiet ((go_at_call 49; exact Calls.quiet_of_same (HBT.out _)))
      have HD := hid (show LeftF w g s p false (wr.drewN nq) from ⟨HW.out.rf, HW.out.only.trans (Only.drewN _ _ _)⟩)
      generalize wr.drewN nq = W1 at HD ⊢
      clear hc0 hc1 e3
      have hc1 := HD.out.rf.c1
      have f1 := HD.out.rf.free 1
      go_wp2_with fail
      go_roundw
      case rel => exact .inr ⟨rfl, val_int (by omega), rfl, HD.out.rf.go (p + 1), HD.out.only.trans (Only.setCell g _ 1 _)⟩
      case measure => simp [intOf]
    · go_wp2_with fail
      go_ret
      exact ⟨ret_int (by omega), hl⟩

set_option maxRecDepth 100000 in
set_option maxHeartbeats 1000000 in
theorem refBit0 (g : Nat) (s : ByteArray) (p : Nat) (w : World) (h : Rf w g s p false) (hs : s.size ≤ 1048576) (hp : p = 8 * s.size) :
    Calls Try.prog 24 #[.pointer (some ⟨g, 0, none⟩), .int .i64 1] w fun e w' => e = .returned (.int .u32 0) ∧ LeftF w g s p true w' := by
  have HR := hid h
  have hc0 := h.c0
  have hc1 := h.c1
  have hc2 := h.c2
  have e1 : IntKind.i64.wrap (8 * (s.size : Int)) = 8 * (s.size : Int) := by rw [IntKind.wrap_i64]; omega
  have e2 : IntKind.i64.wrap (8 * (s.size : Int) - (p : Int)) = 8 * (s.size : Int) - (p : Int) := by rw [IntKind.wrap_i64]; omega
  have g1 : decide (8 * (s.size : Int) - (p : Int) < 1) = true := by rw [decide_eq_true_iff]; omega
  clear h hp
  go_enter Try.func24, Try.ntmps24
  go_upto_region 1 with fail
  go_quiet (fail)
  clear e1 e2 g1 hc0 hc1 hc2
  have HL := hid (show LeftF w g s p false (w.drewN nq) from ⟨HR.out, Only.drewN _ _ _⟩)
  generalize w.drewN nq = W0 at HL ⊢
  have hc2 := HL.out.rf.c2
  have f2 := HL.out.rf.free 2
  go_wp2_with fail
  go_ret
  exact ⟨rfl, HL.out.rf.break, HL.out.only.trans (Only.setCell g _ 2 _)⟩
end Huff
end Go.Proofs.Ytlfohihmkfphhaa
