/- Commit: a mark's sector is laid. -/
import Derived.Test.YthgjijjalfhhcabDoorCoB
namespace Go.Proofs.YthgjijjalfhhcabDoor
set_option linter.unusedVariables false
open Go.RowKit
open Go.Proofs.Num
attribute [local go_sem ↓] Go.wp_at_zero Go.wp_at_succ
namespace Com
open Fld

/-- A seal's bytes; a mark's sector. -/
def sealL (t l : Nat) : List UInt8 := bodyL t l ++ putL (sumN t l) 4
def markB (t l : Nat) : ByteArray := padB ⟨(sealL t l).toArray⟩
theorem sealL_length (t l : Nat) : (sealL t l).length = 28 := by unfold sealL; rw [List.length_append, bodyL_length, putL_length]

theorem Wb.stepB {w W W' : World} {B G : Nat} {c0 c1 c2 c3 : Value} {l : List UInt8} (h : Wb w W B G c0 c1 c2 c3 l) (hb : Below W.heap.size W W') : Wb w W' B G c0 c1 c2 c3 l :=
  ⟨h.wr.below hb, row_step h.box hb, h.below.trans (hb.mono h.below.size), h.lt, h.le⟩

set_option maxRecDepth 100000 in
set_option maxHeartbeats 1000000 in
theorem write (t l : Nat) (hok : Ok t l) (w : World) : Calls Tryd.prog 5 #[markV t l] w fun e w' => e = .returned (.string (markB t l)) ∧ Below w.heap.size w w' := by
  have HR := hid (fun W => right t l hok W)
  have ht : t ≤ 1099511627776 := hok.t1
  have hl : l ≤ 1099511627776 := by have := hok.l1; omega
  have HS := hid (fun W => sealed t l W ht hl)
  have HB := hid (fun s W => body t l s W ht hl)
  have HM := hid (show markB t l = padB ⟨(bodyL t l ++ putL (sumN t l) (wideN 4)).toArray⟩ from rfl)
  have hb24 := bodyL_length t l
  have hS := (sum_eq t l).2
  have HROW := hid (heap_alloc_new w (.cells #[.int .i64 (t : Int), .int .i64 (l : Int)] 24))
  have HBEL := hid ((Below.refl _ w).alloc (Nat.le_refl _) (.cells #[.int .i64 (t : Int), .int .i64 (l : Int)] 24))
  clear hok ht hl
  generalize markB t l = out at HM ⊢
  generalize bodyL t l = b at HB HM hb24
  generalize sumN t l = S at HS HM hS
  have e3 : IntKind.u64.wrap (S : Int) = (S : Int) := by rw [IntKind.wrap_u64]; omega
  have HB24 := hid hb24
  have HS32 := hid hS
  clear hb24 hS
  go_enter Tryd.func5, Tryd.ntmps5
  go_upto_region 1 with fail
  generalize w.alloc (.cells #[.int .i64 (t : Int), .int .i64 (l : Int)] 24) = W at HROW HBEL ⊢
  obtain ⟨a0, a1⟩ := two_cells HROW.out
  go_wp2_with fail
  refine (HR.out _).mono ?_
  rintro e w1 ⟨rfl, b1⟩
  have HROW1 := hid (row_step HROW.out b1)
  have HBEL1 := hid (HBEL.out.trans (b1.mono HBEL.out.size))
  clear b1 a0 a1 HROW HBEL
  obtain ⟨a0, a1⟩ := two_cells HROW1.out
  go_wp2_with fail
  refine (HS.out _).mono ?_
  rintro e w2 ⟨rfl, b2⟩
  have HBEL2 := hid (HBEL1.out.trans (b2.mono HBEL1.out.size))
  clear b2 a0 a1 HROW1 HBEL1
  go_upto_region 5 with fail
  have K00 := wb_new (w := w) (heap_alloc_new w2 (.cells #[.string magicB, .int .i64 (t : Int), .int .i64 (l : Int), .int .u32 (S : Int)] 43)) (HBEL2.out.alloc HBEL2.out.size _) HBEL2.out.size
  rw [World.size_alloc] at K00
  have K0 := hid K00
  clear K00
  generalize (w2.alloc (.cells #[.string magicB, .int .i64 (t : Int), .int .i64 (l : Int), .int .u32 (S : Int)] 43)).alloc (.cells #[.slice none 0 0] 46) = W4 at K0 ⊢
  have hGE : w2.heap.size + 1 = w2.heap.size + 1 := rfl
  generalize w2.heap.size = E at K0 ⊢
  clear hGE
  have c0 := hid (four_cells K0.out.box)
  have HPAD := hid (fun W => pad ⟨(b ++ putL S (wideN 4)).toArray⟩ W (by show (b ++ putL S (wideN 4)).toArray.size ≤ 1000000; rw [List.size_toArray, List.length_append, putL_length]; have := HB24.out; have := wide_le 4; omega))
  go_region_held3 (fun W' => W'.cell? ⟨E, 0, none⟩ = some (.string magicB) ∧ W'.cell? ⟨E, 1, none⟩ = some (.int .i64 (t : Int)) ∧ W'.cell? ⟨E, 2, none⟩ = some (.int .i64 (l : Int)) ∧ W'.cell? ⟨E, 3, none⟩ = some (.int .u32 (S : Int)))
    (first | exact c0.out | exact four_cells K5.out.box | exact four_cells K3.out.box | exact four_cells K2.out.box | exact four_cells (K1.out.alloc _).box | exact four_cells (K1.out.alloc _).drew.box | exact four_cells (K1.out.drew.alloc _).box | exact four_cells K1.out.box | go_keep)
    (first
      | (have tok := K4.out; clear tok; go_at_call 18; refine (HPAD.out _).mono ?_; rintro e w6 ⟨rfl, h⟩; have K5 := hid (K4.out.stepB h); clear h)
      | (have tok := K3.out; clear tok; go_at_call 22; refine (wbytes (E + 1) _ _ K3.out.wr).mono ?_; rintro e w5 ⟨rfl, rfl⟩; have K4 := K3)
      | (have tok := K2.out; clear tok; go_at_call 21; refine (wb_num K2.out S 4 (by have := HS32.out; omega) (by omega) (by omega) (by have := HB24.out; omega)).mono ?_; rintro e w4 ⟨rfl, h⟩; have K3 := hid h; clear h)
      | (have tok := K1.out; clear tok; go_at_call 19; refine (wb_text (K1.out.alloc _) ⟨b.toArray⟩ w3.heap.size 1 (lie_new w3 [⟨b.toArray⟩]) (by simp) (by show b.toArray.size ≤ 1000; rw [List.size_toArray]; have := HB24.out; omega)).mono ?_; rintro e w3' ⟨rfl, h⟩; have K2 := hid (show Wb w w3' E (E + 1) (.string magicB) (.int .i64 (t : Int)) (.int .i64 (l : Int)) (.int .u32 (S : Int)) b from h); clear h)
      | (go_at_call 20; refine (HB.out _ _).mono ?_; rintro e w3 ⟨rfl, h⟩; have K1 := hid (by first | exact K0.out.drew.stepB h | exact K0.out.stepB h); clear h))
  go_wp2_with fail
  go_ret
  exact ⟨ret_str HM.out.symm, K5.out.below⟩
end Com
end Go.Proofs.YthgjijjalfhhcabDoor
