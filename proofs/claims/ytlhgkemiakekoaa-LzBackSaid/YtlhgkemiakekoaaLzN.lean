/- LZ: the document's example; LzLongs's walk. -/
import Derived.Test.YtlhgkemiakekoaaLzL
namespace Go.Proofs.Ytlhgkemiakekoaa
set_option linter.unusedVariables false
open Go.RowKit
attribute [local go_sem ↓] Go.wp_at_zero Go.wp_at_succ
namespace Lz
def ex1 : List Tok := [(97, 0, 0), (0, 3, 1)]
theorem ex1_made : expT (tx ex1) (ty ex1) (tz ex1) 2 = some [97, 97, 97, 97] := by decide
set_option maxRecDepth 100000 in
theorem lives (w : World) : Calls Try.prog 7 #[] w fun e w' => e = .returned (.bool true) ∧ Below w.heap.size w w' := by
  have HT : Hid (ToksAt (w.alloc (.cells #[.int .u8 97, .int .i64 0, .int .i64 0, .int .u8 0, .int .i64 3, .int .i64 1] 24)) (some ⟨w.heap.size, 0, none⟩) w.heap.size 0 2 (tx ex1) (ty ex1) (tz ex1)) := hid ⟨fun _ => rfl, fun _ => by simp, fun k hk => by
    rw [cell_of_row _ _ _ _ _ _ (heap_alloc_new _ _), cell_of_row _ _ _ _ _ _ (heap_alloc_new _ _), cell_of_row _ _ _ _ _ _ (heap_alloc_new _ _)]
    match k, hk with
    | 0, _ => exact ⟨rfl, rfl, rfl⟩
    | 1, _ => exact ⟨rfl, rfl, rfl⟩⟩
  have HB : Hid (Below w.heap.size w (w.alloc (.cells #[.int .u8 97, .int .i64 0, .int .i64 0, .int .u8 0, .int .i64 3, .int .i64 1] 24))) := hid ((Below.refl _ _).alloc (Nat.le_refl _) _)
  go_enter Try.func7, Try.ntmps7
  go_wp2_with fail
  generalize w.alloc (.cells #[.int .u8 97, .int .i64 0, .int .i64 0, .int .u8 0, .int .i64 3, .int .i64 1] 24) = W0 at HT HB ⊢
  have HE := hid (expand (some ⟨w.heap.size, 0, none⟩) w.heap.size 0 2 2 (tx ex1) (ty ex1) (tz ex1) W0 (by decide) HT.out (fun k hk => by
    match k, hk with
    | 0, _ => exact ⟨by decide, by decide⟩
    | 1, _ => exact ⟨by decide, by decide⟩))
  rw [ex1_made] at HE
  unfold expV at HE
  refine HE.out.mono ?_
  rintro e w1 ⟨rfl, b1⟩
  have HB1 := hid (HB.out.trans (b1.mono HB.out.size))
  clear b1
  go_wp2_with fail
  refine (match1 _ (by rfl) _).mono ?_
  rintro e w2 ⟨⟨A, c, rfl⟩, b2⟩
  have HB2 := hid (HB1.out.trans (b2.mono HB1.out.size))
  clear b2
  go_wp2_with fail
  go_ret
  exact ⟨rfl, HB2.out⟩

set_option maxRecDepth 100000 in
set_option maxHeartbeats 2000000 in
theorem longs (s : ByteArray) (at' back : Int) (w : World) (hs : s.size ≤ 9223372036854775807) (r0 : -9223372036854775808 ≤ at') (r1 : at' ≤ 9223372036854775807) :
    Calls Try.prog 4 #[.string s, .int .i64 at', .int .i64 back] w fun e w' => e = .returned (.bool true) ∧ Below w.heap.size w w' := by
  go_enter Try.func4, Try.ntmps4
  go_upto_region 1 with fail
  go_cut [0] (fun st wx => ∃ T : ByteArray, T.size ≤ 600 ∧ st = .string T ∧ wx = w)
  case first =>
    by_cases h : (600 : Int) < (s.size : Int)
    · have h2 : (600 : Int) ≤ (s.size : Int) := by omega
      go_wp2_with fail
      go_meet
      exact ⟨_, by simp; omega, rfl, rfl⟩
    · have h2 : s.size ≤ 600 := by omega
      go_wp2_with fail
      all_goals go_meet
      all_goals exact ⟨_, by first | exact h2 | (simp; omega), rfl, rfl⟩
  case rest =>
    obtain ⟨T, hT, rfl, rfl⟩ := hcut
    have L1 := hid (fun W => long T at' back W (by omega) r0 r1)
    have L2 := hid (fun W => refLong T at' back W (by omega) r0 r1)
    have P1 := hid (fun W => plain T W (by omega) (by omega))
    have P2 := hid (fun W => refBytes T W (by omega))
    have HT := hid hT
    clear hT
    go_wp2_with fail
    refine (L1.out _).mono ?_
    rintro e w1 ⟨rfl, b1⟩
    have B1 := hid b1
    clear b1
    go_wp2_with fail
    refine (L2.out _).mono ?_
    rintro e w2 ⟨rfl, b2⟩
    have B2 := hid (B1.out.trans (b2.mono B1.out.size))
    clear b2
    go_wp2_with fail
    refine (P1.out _).mono ?_
    rintro e w3 ⟨⟨v3, rfl, o3⟩, b3⟩
    have B3 := hid (B2.out.trans (b3.mono B2.out.size))
    obtain ⟨A3, c3, g3, rfl, h3⟩ := OwnT.form o3
    have H3 := hid h3
    clear b3 o3 h3
    go_wp2_with fail
    refine (P2.out _).mono ?_
    rintro e w4 ⟨⟨v4, rfl, o4⟩, b4⟩
    have B4 := hid (B3.out.trans (b4.mono B3.out.size))
    obtain ⟨A4, c4, g4, rfl, h4⟩ := OwnT.form o4
    have H4 := hid h4
    have H5 := hid (H3.out.below b4)
    clear b4 o4 h4
    have S1 := hid (same A3 g3 0 _ c3 A4 g4 0 c4 _ _ _ w4 (by rw [bytesT_len]; have := HT.out; omega) H5.out H4.out)
    go_wp2_with fail
    refine S1.out.mono ?_
    rintro e w5 ⟨rfl, b5⟩
    have B5 := hid (B4.out.trans (b5.mono B4.out.size))
    clear b5
    go_wp2_with fail
    refine (lives _).mono ?_
    rintro e w6 ⟨rfl, b6⟩
    have B6 := hid (B5.out.trans (b6.mono B5.out.size))
    clear b6
    go_wp2_with fail
    go_ret
    exact ⟨rfl, B6.out⟩
end Lz
end Go.Proofs.Ytlhgkemiakekoaa
