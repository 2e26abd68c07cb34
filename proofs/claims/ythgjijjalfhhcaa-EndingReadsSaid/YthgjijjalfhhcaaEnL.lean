/- EndingReads: the law's walk. -/
import Derived.Test.YthgjijjalfhhcaaEnK
namespace Go.Proofs.Ythgjijjalfhhcaa
set_option linter.unusedVariables false
open Go.RowKit
open Go.Proofs.Num
attribute [local go_sem ↓] Go.wp_at_zero Go.wp_at_succ
namespace Edg
open Fld

theorem toldR_form (s : ByteArray) (A : Int) : ∃ (a b c d : Int) (ok : Bool), toldR s A = (endV a b c d, ok) := by
  unfold toldR
  split
  · obtain ⟨a, b, c, d, h⟩ := valT_form (s.extract A.toNat s.size)
    exact ⟨a, b, c, d, _, by rw [h]⟩
  · exact ⟨_, _, _, _, _, rfl⟩
theorem toldF_form (s : ByteArray) (o : Option Nat) : ∃ (a b c d m : Int) (t : Bool), toldF s o = .tuple #[endV a b c d, .int .i64 m, .bool t] := by
  cases o with
  | none => exact ⟨_, _, _, _, _, _, rfl⟩
  | some k =>
    obtain ⟨a, b, c, d, h⟩ := valT_form (s.extract k s.size)
    exact ⟨a, b, c, d, (k : Int), true, by show Value.tuple #[valT (s.extract k s.size), .int .i64 (k : Int), .bool true] = _; rw [h]⟩

set_option maxRecDepth 100000 in
set_option maxHeartbeats 2000000 in
theorem walk (s : ByteArray) (A : Int) (w : World) (hs : s.size ≤ 9223372036854775807) :
    Calls Try.prog 12 #[.string s, .int .i64 A] w fun e w' => e = .returned (.bool true) ∧ Below w.heap.size w w' := by
  go_enter Try.func12, Try.ntmps12
  go_upto_region 1 with fail
  go_cut [0] (fun v wx => ∃ t : ByteArray, t.size ≤ 400 ∧ v = .string t ∧ wx = w)
  case first =>
    by_cases h4 : s.size ≤ 400
    · have h4' : (s.size : Int) ≤ 400 := by omega
      go_wp2_with fail
      go_meet
      exact ⟨s, h4, rfl, rfl⟩
    · have h4' : ¬ (s.size : Int) ≤ 400 := by omega
      have h5 : (400 : Int) ≤ (s.size : Int) := by omega
      go_wp2_with fail
      go_meet
      exact ⟨s.extract 0 400, by simp; omega, rfl, rfl⟩
  case rest =>
    obtain ⟨t, ht, rfl, rfl⟩ := hcut
    clear hs
    obtain ⟨a, b, c, d, ok, h1⟩ := toldR_form t A
    obtain ⟨x, y, z, u, m, f, h2⟩ := toldF_form t (findN t (t.size - 21))
    have R1 := hid (fun W => by have := read_all t A W (by omega); rw [h1] at this; exact this)
    have R2 := hid (fun W => by have := refRead_all t A W (by omega); rw [h1] at this; exact this)
    have F1 := hid (fun W => by have := find t W ht; rw [h2] at this; exact this)
    have F2 := hid (fun W => by have := refFind t W ht; rw [h2] at this; exact this)
    clear h1 h2 ht
    go_wp2_with fail
    refine (R1.out _).mono ?_
    rintro e w1 ⟨rfl, b1⟩
    have B1 := hid b1
    clear b1
    go_upto_region 3 with fail
    have X1 := hid (heap_alloc_new w1 (.cells #[.int .i64 a, .int .i64 b, .int .i64 c, .int .i64 d] 72))
    have C1 := hid (B1.out.alloc B1.out.size (.cells #[.int .i64 a, .int .i64 b, .int .i64 c, .int .i64 d] 72))
    generalize w1.alloc (.cells #[.int .i64 a, .int .i64 b, .int .i64 c, .int .i64 d] 72) = W1 at X1 C1 ⊢
    generalize w1.heap.size = G1 at X1 ⊢
    clear B1
    go_wp2_with fail
    refine (R2.out _).mono ?_
    rintro e w2 ⟨rfl, b2⟩
    have X1' := hid (row_step X1.out b2)
    have B2 := hid (C1.out.trans (b2.mono C1.out.size))
    clear b2 X1 C1
    go_upto_region 4 with fail
    have Y1 := hid (row_step X1'.out ((Below.refl _ _).alloc (Nat.le_refl _) (.cells #[.int .i64 a, .int .i64 b, .int .i64 c, .int .i64 d] 75)))
    have X2 := hid (heap_alloc_new w2 (.cells #[.int .i64 a, .int .i64 b, .int .i64 c, .int .i64 d] 75))
    have C2 := hid (B2.out.alloc B2.out.size (.cells #[.int .i64 a, .int .i64 b, .int .i64 c, .int .i64 d] 75))
    generalize w2.alloc (.cells #[.int .i64 a, .int .i64 b, .int .i64 c, .int .i64 d] 75) = W2 at X2 Y1 C2 ⊢
    generalize w2.heap.size = G2 at X2 ⊢
    clear B2 X1'
    go_wp2_with fail
    refine (F1.out _).mono ?_
    rintro e w3 ⟨rfl, b3⟩
    have X1 := hid (row_step Y1.out b3)
    have Y2 := hid (row_step X2.out b3)
    have B3 := hid (C2.out.trans (b3.mono C2.out.size))
    clear b3 C2 Y1 X2
    go_upto_region 5 with fail
    have Y1 := hid (row_step X1.out ((Below.refl _ _).alloc (Nat.le_refl _) (.cells #[.int .i64 x, .int .i64 y, .int .i64 z, .int .i64 u] 72)))
    have X2 := hid (row_step Y2.out ((Below.refl _ _).alloc (Nat.le_refl _) (.cells #[.int .i64 x, .int .i64 y, .int .i64 z, .int .i64 u] 72)))
    have X3 := hid (heap_alloc_new w3 (.cells #[.int .i64 x, .int .i64 y, .int .i64 z, .int .i64 u] 72))
    have C3 := hid (B3.out.alloc B3.out.size (.cells #[.int .i64 x, .int .i64 y, .int .i64 z, .int .i64 u] 72))
    generalize w3.alloc (.cells #[.int .i64 x, .int .i64 y, .int .i64 z, .int .i64 u] 72) = W3 at X2 Y1 X3 C3 ⊢
    generalize w3.heap.size = G3 at X3 ⊢
    clear B3 X1 Y2
    go_wp2_with fail
    refine (F2.out _).mono ?_
    rintro e w4 ⟨rfl, b4⟩
    have X1 := hid (row_step Y1.out b4)
    have Y2 := hid (row_step X2.out b4)
    have Y3 := hid (row_step X3.out b4)
    have B4 := hid (C3.out.trans (b4.mono C3.out.size))
    clear b4 C3 Y1 X2 X3
    go_upto_region 6 with fail
    have C4 := hid (B4.out.alloc B4.out.size (.cells #[.int .i64 x, .int .i64 y, .int .i64 z, .int .i64 u] 75))
    have bb := (Below.refl w4.heap.size w4).alloc (Nat.le_refl _) (.cells #[.int .i64 x, .int .i64 y, .int .i64 z, .int .i64 u] 75)
    obtain ⟨p0, p1, p2, p3⟩ := four_cells (Below.refl _ _) (row_step X1.out bb)
    obtain ⟨q0, q1, q2, q3⟩ := four_cells (Below.refl _ _) (row_step Y2.out bb)
    obtain ⟨r0, r1, r2, r3⟩ := four_cells (Below.refl _ _) (row_step Y3.out bb)
    obtain ⟨s0, s1, s2, s3⟩ := four_cells (Below.refl _ _) (heap_alloc_new w4 (.cells #[.int .i64 x, .int .i64 y, .int .i64 z, .int .i64 u] 75))
    clear bb
    generalize w4.alloc (.cells #[.int .i64 x, .int .i64 y, .int .i64 z, .int .i64 u] 75) = W4 at p0 p1 p2 p3 q0 q1 q2 q3 r0 r1 r2 r3 s0 s1 s2 s3 C4 ⊢
    generalize w4.heap.size = G4 at s0 s1 s2 s3 ⊢
    go_wp2_with fail
    refine (lives _).mono ?_
    rintro e w5 ⟨rfl, b5⟩
    have B5 := hid (C4.out.trans (b5.mono C4.out.size))
    clear b5
    go_wp2_with fail
    go_ret
    exact ⟨rfl, B5.out⟩
end Edg
end Go.Proofs.Ythgjijjalfhhcaa
