/- WALKS: the document's own text of a time. -/
import Derived.Test.YtbcbimlcjcaegaaDoorDosTC
namespace Go.Proofs.YtbcbimlcjcaegaaDoor
set_option linter.unusedVariables false
open Go.RowKit
open Go.Proofs.Dos
attribute [local go_sem ↓] Go.wp_at_zero Go.wp_at_succ

/-- A time's block that stays, in a world that stands over another one. -/
structure Sit (w W : World) (g : Nat) (y m d h n s : Nat) : Prop where
  row : W.heap[g]? = some (.cells #[.int .i64 (y : Int), .int .i64 (m : Int), .int .i64 (d : Int), .int .i64 (h : Int), .int .i64 (n : Int), .int .i64 (s : Int)] 24 (0, 0))
  below : Below w.heap.size w W
theorem Sit.go {w W W' : World} {g y m d h n s : Nat} (k : Sit w W g y m d h n s) (hB : Below W.heap.size W W') : Sit w W' g y m d h n s :=
  ⟨(hB.block g (Array.getElem?_eq_some_iff.1 k.row).1).trans k.row, k.below.trans (hB.mono k.below.size)⟩
theorem Sit.six {w w' : World} {g y m d h n s : Nat} (k : Sit w w' g y m d h n s) : w'.cell? ⟨g, 0, none⟩ = some (.int .i64 (y : Int)) ∧ w'.cell? ⟨g, 1, none⟩ = some (.int .i64 (m : Int)) ∧ w'.cell? ⟨g, 2, none⟩ = some (.int .i64 (d : Int)) ∧ w'.cell? ⟨g, 3, none⟩ = some (.int .i64 (h : Int)) ∧ w'.cell? ⟨g, 4, none⟩ = some (.int .i64 (n : Int)) ∧ w'.cell? ⟨g, 5, none⟩ = some (.int .i64 (s : Int)) := six_ k.row

theorem add3 (a b c : ByteArray) : a ++ b ++ c = a ++ b ++ c := rfl

set_option maxRecDepth 100000 in
set_option maxHeartbeats 4000000 in
theorem refText (x : T) (w : World) (hf : Fits x) :
    Calls Tryd.prog 23 #[tV x] w fun e w' => e = .returned (.string (textB x)) ∧ Below w.heap.size w w' := by
  rw [textB_yes hf]
  have hm := hf.month
  obtain ⟨q1, q2, q3, q4, q5, q6, q7, q8⟩ := hf
  clear q2
  obtain ⟨y, m, d, h, n, s⟩ := x
  simp only [tV] at *
  obtain ⟨y, rfl⟩ := Int.eq_ofNat_of_zero_le (show 0 ≤ y by omega)
  obtain ⟨m, rfl⟩ := Int.eq_ofNat_of_zero_le (show 0 ≤ m by omega)
  obtain ⟨d, rfl⟩ := Int.eq_ofNat_of_zero_le (show 0 ≤ d by omega)
  obtain ⟨h, rfl⟩ := Int.eq_ofNat_of_zero_le q3
  obtain ⟨n, rfl⟩ := Int.eq_ofNat_of_zero_le q5
  obtain ⟨s, rfl⟩ := Int.eq_ofNat_of_zero_le q7
  simp only [Int.toNat_natCast]
  have HFU := hid (show full y m d h n s = two (y / 100) ++ two (y % 100) ++ ⟨#[45]⟩ ++ two m ++ ⟨#[45]⟩ ++ two d ++ ⟨#[32]⟩ ++ two h ++ ⟨#[58]⟩ ++ two n ++ ⟨#[58]⟩ ++ two s by rw [four_two]; rfl)
  generalize full y m d h n s = R at HFU ⊢
  have HY1 := hid (fun w => refTwo (y / 100) (by omega) w)
  have HY2 := hid (fun w => refTwo (y % 100) (by omega) w)
  have HM := hid (fun w => refTwo m (by omega) w)
  have HD := hid (fun w => refTwo d (by omega) w)
  have HH := hid (fun w => refTwo h (by omega) w)
  have HN := hid (fun w => refTwo n (by omega) w)
  have HS := hid (fun w => refTwo s (by omega) w)
  have e1 : ((y / 100 : Nat) : Int) = IntKind.i64.wrap ((y : Int) / 100) := by rw [IntKind.wrap_i64]; omega
  have e2 : ((y % 100 : Nat) : Int) = (y : Int) % 100 := by omega
  rw [e1] at HY1
  have e3 : ((y % 100 : Nat) : Int) = IntKind.i64.wrap ((y : Int) % 100) := by rw [IntKind.wrap_i64]; omega
  have HY3 := hid HY2.out
  rw [e3] at HY3
  rw [e2] at HY2
  clear e1 e2 e3
  have z1 := two_size (y / 100)
  have z2 := two_size (y % 100)
  have s2 := two_size m
  have s3 := two_size d
  have s4 := two_size h
  have s5 := two_size n
  have s6 := two_size s
  generalize two (y / 100) = Y1 at HFU HY1 z1
  generalize two (y % 100) = Y2 at HFU HY2 HY3 z2
  generalize two m = M2 at HFU HM s2
  generalize two d = D2 at HFU HD s3
  generalize two h = H2 at HFU HH s4
  generalize two n = N2 at HFU HN s5
  generalize two s = S2 at HFU HS s6
  have HK := hid (show Sit w (w.alloc (.cells #[.int .i64 (y : Int), .int .i64 (m : Int), .int .i64 (d : Int), .int .i64 (h : Int), .int .i64 (n : Int), .int .i64 (s : Int)] 24)) w.heap.size y m d h n s from ⟨heap_alloc_new _ _, (Below.refl _ _).alloc (Nat.le_refl _) _⟩)
  go_enter Tryd.func23, Tryd.ntmps23
  go_upto_region 1 with fail
  have K0 := hid HK.out
  clear HK
  obtain ⟨c0, c1, c2, c3, c4, c5⟩ := K0.out.six
  generalize w.alloc (.cells #[.int .i64 (y : Int), .int .i64 (m : Int), .int .i64 (d : Int), .int .i64 (h : Int), .int .i64 (n : Int), .int .i64 (s : Int)] 24) = W at *
  go_region_held3 (fun w' => w'.cell? ⟨w.heap.size, 0, none⟩ = some (.int .i64 (y : Int)) ∧ w'.cell? ⟨w.heap.size, 1, none⟩ = some (.int .i64 (m : Int)) ∧ w'.cell? ⟨w.heap.size, 2, none⟩ = some (.int .i64 (d : Int)) ∧ w'.cell? ⟨w.heap.size, 3, none⟩ = some (.int .i64 (h : Int)) ∧ w'.cell? ⟨w.heap.size, 4, none⟩ = some (.int .i64 (n : Int)) ∧ w'.cell? ⟨w.heap.size, 5, none⟩ = some (.int .i64 (s : Int)))
    (first | exact ⟨c0, c1, c2, c3, c4, c5⟩ | exact K7.out.six | exact K6.out.six | exact K5.out.six | exact K4.out.six | exact K3.out.six | exact K2.out.six | exact K1.out.six | go_keep)
    (first
      | (have tok := K6.out; clear tok; go_at_call 50; refine (HS.out _).mono ?_; rintro e w5 ⟨rfl, hB⟩; have K7 := hid (K6.out.go (by first | exact hB | exact ((Below.refl _ _).drew).trans hB)); clear hB)
      | (have tok := K5.out; clear tok; go_at_call 50; refine (HN.out _).mono ?_; rintro e w5 ⟨rfl, hB⟩; have K6 := hid (K5.out.go (by first | exact hB | exact ((Below.refl _ _).drew).trans hB)); clear hB)
      | (have tok := K4.out; clear tok; go_at_call 50; refine (HH.out _).mono ?_; rintro e w5 ⟨rfl, hB⟩; have K5 := hid (K4.out.go (by first | exact hB | exact ((Below.refl _ _).drew).trans hB)); clear hB)
      | (have tok := K3.out; clear tok; go_at_call 50; refine (HD.out _).mono ?_; rintro e w5 ⟨rfl, hB⟩; have K4 := hid (K3.out.go (by first | exact hB | exact ((Below.refl _ _).drew).trans hB)); clear hB)
      | (have tok := K2.out; clear tok; go_at_call 50; refine (HM.out _).mono ?_; rintro e w5 ⟨rfl, hB⟩; have K3 := hid (K2.out.go (by first | exact hB | exact ((Below.refl _ _).drew).trans hB)); clear hB)
      | (have tok := K1.out; clear tok; go_at_call 50; (first | refine (HY2.out _).mono ?_ | refine (HY3.out _).mono ?_); rintro e w5 ⟨rfl, hB⟩; have K2 := hid (K1.out.go (by first | exact hB | exact ((Below.refl _ _).drew).trans hB)); clear hB)
      | (go_at_call 50; refine (HY1.out _).mono ?_; rintro e w5 ⟨rfl, hB⟩; have K1 := hid (K0.out.go (by first | exact hB | exact ((Below.refl _ W).drew).trans hB)); clear hB))
  all_goals
    go_wp2_with fail
    go_ret
    refine ⟨ret_str HFU.out.symm, ?_⟩
    first | exact K7.out.below | exact K7.out.below.drew | exact below_drewN K7.out.below _
end Go.Proofs.YtbcbimlcjcaegaaDoor
