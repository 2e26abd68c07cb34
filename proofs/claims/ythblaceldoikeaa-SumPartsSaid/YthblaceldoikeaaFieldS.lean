/- WALKS over readers of fields: numbers; what both readers tell alike. -/
import Derived.Test.YthblaceldoikeaaFieldR
namespace Go.Proofs.Ythblaceldoikeaa
set_option linter.unusedVariables false
open Go.RowKit
open Go.Proofs.Num
namespace Fld

set_option maxRecDepth 100000 in
set_option maxHeartbeats 1000000 in
theorem num_bad (g : Nat) (s : ByteArray) (p : Nat) (n : Int) (w : World) (h : Rd w g 108 s p true) :
    Calls Try.prog 18 #[.pointer (some ⟨g, 0, none⟩), .int .i64 n] w fun e w' => e = .returned (.int .u64 0) ∧ Left w g 108 s p true w' := by
  have HR := hid h
  clear h
  go_enter Try.func18, Try.ntmps18
  go_wp2_with fail
  refine (fine g s p true _ HR.out).mono ?_
  rintro e w' ⟨rfl, rfl⟩
  go_wp2_with fail
  go_ret
  exact ⟨rfl, Left.same HR.out⟩

theorem num_nil (n : Int) (w : World) : Calls Try.prog 18 #[.pointer none, .int .i64 n] w fun e w' => e = .returned (.int .u64 0) ∧ w = w' := by
  go_enter Try.func18, Try.ntmps18
  go_wp2_with fail
  refine (fine_nil _).mono ?_
  rintro e w' ⟨rfl, rfl⟩
  go_wp2_with fail
  go_ret
  exact ⟨rfl, rfl⟩

set_option maxRecDepth 100000 in
set_option maxHeartbeats 1000000 in
/-- A number that is there. -/
theorem num_yes (g : Nat) (s : ByteArray) (p n : Nat) (a : Int) (w : World) (h : Rd w g 108 s p false) (hp : p + n ≤ s.size) (hs : s.size ≤ 9223372036854775807)
    (hg : ∀ w, Calls Try.prog 12 #[.string (s.extract p s.size), .int .i64 (n : Int)] w fun e w' => e = .returned (.tuple #[.int .u64 a, .bool true]) ∧ w = w') :
    Calls Try.prog 18 #[.pointer (some ⟨g, 0, none⟩), .int .i64 (n : Int)] w fun e w' => e = .returned (.int .u64 a) ∧ Left w g 108 s (p + n) false w' := by
  have HR := hid h
  have HG := hid hg
  have hc0 := h.c0
  have hc1 := h.c1
  have hf := h.free 1
  clear h hg
  go_enter Try.func18, Try.ntmps18
  go_wp2_with fail
  refine (fine g s p false _ HR.out).mono ?_
  rintro e w' ⟨rfl, rfl⟩
  go_wp2_with fail
  go_quiet ((go_at_call 12; exact Calls.quiet_of_same ((HG.out _).mono fun e w' h => ⟨h.1, h.2.symm⟩)))
  go_wp2_with fail
  go_ret
  exact ⟨rfl, by have := HR.out.go (p + n); exact this, (Only.drewN g w _).trans (Only.setCell g _ 1 _)⟩

set_option maxRecDepth 100000 in
set_option maxHeartbeats 1000000 in
/-- A number that isn't there. -/
theorem num_no (g : Nat) (s : ByteArray) (p : Nat) (n : Int) (w : World) (h : Rd w g 108 s p false) (hp : p ≤ s.size) (hs : s.size ≤ 9223372036854775807)
    (hg : ∀ w, Calls Try.prog 12 #[.string (s.extract p s.size), .int .i64 n] w fun e w' => e = .returned (.tuple #[.int .u64 0, .bool false]) ∧ w = w') :
    Calls Try.prog 18 #[.pointer (some ⟨g, 0, none⟩), .int .i64 n] w fun e w' => e = .returned (.int .u64 0) ∧ Left w g 108 s p true w' := by
  have HR := hid h
  have HG := hid hg
  have hc0 := h.c0
  have hc1 := h.c1
  have hc2 := h.c2
  have hf := h.free 2
  clear h hg
  go_enter Try.func18, Try.ntmps18
  go_wp2_with fail
  refine (fine g s p false _ HR.out).mono ?_
  rintro e w' ⟨rfl, rfl⟩
  go_wp2_with fail
  go_quiet ((go_at_call 12; exact Calls.quiet_of_same ((HG.out _).mono fun e w' h => ⟨h.1, h.2.symm⟩)))
  go_wp2_with fail
  go_ret
  exact ⟨rfl, HR.out.spoil, (Only.drewN g w _).trans (Only.setCell g _ 2 _)⟩

set_option maxRecDepth 100000 in
set_option maxHeartbeats 1000000 in
theorem refNum_bad (g : Nat) (s : ByteArray) (p : Nat) (n : Int) (w : World) (h : Rd w g 33 s p true) :
    Calls Try.prog 19 #[.pointer (some ⟨g, 0, none⟩), .int .i64 n] w fun e w' => e = .returned (.int .u64 0) ∧ Left w g 33 s p true w' := by
  have HR := hid h
  have hc2 := h.c2
  clear h
  go_enter Try.func19, Try.ntmps19
  go_wp2_with fail
  go_ret
  exact ⟨rfl, Left.same HR.out⟩

set_option maxRecDepth 100000 in
set_option maxHeartbeats 1000000 in
theorem refNum_yes (g : Nat) (s : ByteArray) (p n : Nat) (a : Int) (w : World) (h : Rd w g 33 s p false) (hp : p + n ≤ s.size) (hs : s.size ≤ 9223372036854775807)
    (hg : ∀ w, Calls Try.prog 13 #[.string (s.extract p s.size), .int .i64 (n : Int)] w fun e w' => e = .returned (.tuple #[.int .u64 a, .bool true]) ∧ w = w') :
    Calls Try.prog 19 #[.pointer (some ⟨g, 0, none⟩), .int .i64 (n : Int)] w fun e w' => e = .returned (.int .u64 a) ∧ Left w g 33 s (p + n) false w' := by
  have HR := hid h
  have HG := hid hg
  have hc0 := h.c0
  have hc1 := h.c1
  have hc2 := h.c2
  have hf := h.free 1
  clear h hg
  go_enter Try.func19, Try.ntmps19
  go_wp2_with fail
  go_quiet ((go_at_call 13; exact Calls.quiet_of_same ((HG.out _).mono fun e w' h => ⟨h.1, h.2.symm⟩)))
  go_wp2_with fail
  go_ret
  exact ⟨rfl, by have := HR.out.go (p + n); exact this, (Only.drewN g w _).trans (Only.setCell g _ 1 _)⟩

set_option maxRecDepth 100000 in
set_option maxHeartbeats 1000000 in
theorem refNum_no (g : Nat) (s : ByteArray) (p : Nat) (n : Int) (w : World) (h : Rd w g 33 s p false) (hp : p ≤ s.size) (hs : s.size ≤ 9223372036854775807)
    (hg : ∀ w, Calls Try.prog 13 #[.string (s.extract p s.size), .int .i64 n] w fun e w' => e = .returned (.tuple #[.int .u64 0, .bool false]) ∧ w = w') :
    Calls Try.prog 19 #[.pointer (some ⟨g, 0, none⟩), .int .i64 n] w fun e w' => e = .returned (.int .u64 0) ∧ Left w g 33 s p true w' := by
  have HR := hid h
  have HG := hid hg
  have hc0 := h.c0
  have hc1 := h.c1
  have hc2 := h.c2
  have hf := h.free 2
  clear h hg
  go_enter Try.func19, Try.ntmps19
  go_wp2_with fail
  go_quiet ((go_at_call 13; exact Calls.quiet_of_same ((HG.out _).mono fun e w' h => ⟨h.1, h.2.symm⟩)))
  go_wp2_with fail
  go_ret
  exact ⟨rfl, HR.out.spoil, (Only.drewN g w _).trans (Only.setCell g _ 2 _)⟩

/-- What both readers tell alike, and leave alike: a text. -/
theorem texts (s : ByteArray) (p : Nat) (bad : Bool) (n : Int) (hp : p ≤ s.size) (hs : s.size ≤ 9223372036854775807) :
    ∃ (v : ByteArray) (q : Nat) (b : Bool), q ≤ s.size ∧
      (∀ g w, Rd w g 108 s p bad → Calls Try.prog 20 #[.pointer (some ⟨g, 0, none⟩), .int .i64 n] w fun e w' => e = .returned (.string v) ∧ Left w g 108 s q b w') ∧
      (∀ g w, Rd w g 33 s p bad → Calls Try.prog 21 #[.pointer (some ⟨g, 0, none⟩), .int .i64 n] w fun e w' => e = .returned (.string v) ∧ Left w g 33 s q b w') := by
  cases bad with
  | true => exact ⟨_, p, true, hp, fun g w h => text_bad g s p n w h, fun g w h => refText_bad g s p n w h⟩
  | false =>
    by_cases hn : n < 0 ∨ (s.size : Int) - p < n
    · exact ⟨_, p, true, hp, fun g w h => text_no g s p n w h hp hn hs, fun g w h => refText_no g s p n w h hp hn hs⟩
    · obtain ⟨m, rfl⟩ := Int.eq_ofNat_of_zero_le (show 0 ≤ n by omega)
      exact ⟨_, p + m, false, by omega, fun g w h => text_yes g s p m w h (by omega) hs, fun g w h => refText_yes g s p m w h (by omega) hs⟩

/-- .. a number. -/
theorem nums (s : ByteArray) (p : Nat) (bad : Bool) (n : Int) (hp : p ≤ s.size) (hs : s.size ≤ 9223372036854775807) (hw0 : -9223372036854775808 ≤ n) (hw1 : n ≤ 9223372036854775807) :
    ∃ (v : Int) (q : Nat) (b : Bool), q ≤ s.size ∧
      (∀ g w, Rd w g 108 s p bad → Calls Try.prog 18 #[.pointer (some ⟨g, 0, none⟩), .int .i64 n] w fun e w' => e = .returned (.int .u64 v) ∧ Left w g 108 s q b w') ∧
      (∀ g w, Rd w g 33 s p bad → Calls Try.prog 19 #[.pointer (some ⟨g, 0, none⟩), .int .i64 n] w fun e w' => e = .returned (.int .u64 v) ∧ Left w g 33 s q b w') := by
  cases bad with
  | true => exact ⟨_, p, true, hp, fun g w h => num_bad g s p n w h, fun g w h => refNum_bad g s p n w h⟩
  | false =>
    have hsz : (s.extract p s.size).size = s.size - p := by rw [ByteArray.size_extract]; omega
    obtain ⟨a, b, g1, g2, hy, hn⟩ := gets (s.extract p s.size) n (by rw [hsz]; unfold maxLen; omega) hw0 hw1
    cases b with
    | false =>
      obtain ⟨rfl, _⟩ := hn rfl
      exact ⟨0, p, true, hp, fun g w h => num_no g s p n w h hp hs g1, fun g w h => refNum_no g s p n w h hp hs g2⟩
    | true =>
      obtain ⟨y0, y1, y2, _⟩ := hy rfl
      obtain ⟨m, rfl⟩ := Int.eq_ofNat_of_zero_le y0
      have hm : p + m ≤ s.size := by rw [hsz] at y2; omega
      exact ⟨a, p + m, false, hm, fun g w h => num_yes g s p m a w h hm hs g1, fun g w h => refNum_yes g s p m a w h hm hs g2⟩

theorem skip_ (g : Nat) (s : ByteArray) (p : Nat) (bad : Bool) (n : Int) (v : ByteArray) (q : Nat) (b : Bool) (w : World) (h : Rd w g 108 s p bad)
    (ht : ∀ g w, Rd w g 108 s p bad → Calls Try.prog 20 #[.pointer (some ⟨g, 0, none⟩), .int .i64 n] w fun e w' => e = .returned (.string v) ∧ Left w g 108 s q b w') :
    Calls Try.prog 22 #[.pointer (some ⟨g, 0, none⟩), .int .i64 n] w fun e w' => e = .returned (.tuple #[]) ∧ Left w g 108 s q b w' := by
  have HR := hid h
  have HT := hid ht
  clear h ht
  go_enter Try.func22, Try.ntmps22
  go_wp2_with fail
  refine (HT.out g _ HR.out).mono ?_
  rintro e w' ⟨rfl, hl⟩
  have HL := hid hl; clear hl
  go_wp2_with fail
  go_end0
  exact ⟨rfl, HL.out⟩

theorem skip_nil (n : Int) (w : World) : Calls Try.prog 22 #[.pointer none, .int .i64 n] w fun e w' => e = .returned (.tuple #[]) ∧ w = w' := by
  go_enter Try.func22, Try.ntmps22
  go_wp2_with fail
  refine (text_nil n _).mono ?_
  rintro e w' ⟨rfl, rfl⟩
  go_wp2_with fail
  go_end0
  exact ⟨rfl, rfl⟩
end Fld
end Go.Proofs.Ythblaceldoikeaa
