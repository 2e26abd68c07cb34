/- WALKS over readers of fields: the program's, and the document's own: each step tells the same and leaves the same. -/
import Derived.Test.YthblaceldoikeaaFieldG
import Derived.Deep.QuietTactic
import Derived.BigQuiet
import Derived.Deep.RegionHeld3
import Derived.Deep.DrawnRows
namespace Go.Proofs.Ythblaceldoikeaa
set_option linter.unusedVariables false
open Go.RowKit
open Go.Proofs.Num
namespace Fld

/-- A reader's three cells. -/
def Rd (w : World) (g : Nat) (T : TypeId) (s : ByteArray) (p : Nat) (bad : Bool) : Prop := w.heap[g]? = some (.cells #[.string s, .int .i64 (p : Int), .bool bad] T (0, 0))

/-- Of what was there, block g alone may have changed. -/
structure Only (g : Nat) (w w' : World) : Prop where
  os : w'.os = w.os
  tape : w'.tape = w.tape
  output : w'.output = w.output
  size : w.heap.size ≤ w'.heap.size
  block : ∀ k, k < w.heap.size → k ≠ g → w'.heap[k]? = w.heap[k]?

theorem Only.refl (g : Nat) (w : World) : Only g w w := ⟨rfl, rfl, rfl, Nat.le_refl _, fun _ _ _ => rfl⟩
theorem Only.trans {g : Nat} {a b c : World} (h : Only g a b) (k : Only g b c) : Only g a c :=
  ⟨k.os.trans h.os, k.tape.trans h.tape, k.output.trans h.output, Nat.le_trans h.size k.size, fun i hi hn => (k.block i (Nat.lt_of_lt_of_le hi h.size) hn).trans (h.block i hi hn)⟩
theorem Only.drewN (g : Nat) (w : World) (n : Nat) : Only g w (w.drewN n) := ⟨rfl, rfl, rfl, Nat.le_refl _, fun _ _ _ => rfl⟩
theorem Only.setCell (g : Nat) (w : World) (i : Nat) (v : Value) : Only g w (w.setCell ⟨g, i, none⟩ v) :=
  ⟨rfl, rfl, rfl, by simp [World.setCell], fun k _ hn => heap_setCell_other w ⟨g, i, none⟩ k v hn⟩
theorem Only.below {g : Nat} {a w w' : World} (h : Only g w w') (hb : Below a.heap.size a w) (hg : a.heap.size ≤ g) : Below a.heap.size a w' :=
  hb.trans ⟨h.os, h.tape, h.output, h.size, fun k hk => h.block k (Nat.lt_of_lt_of_le hk hb.size) (by omega)⟩

section
variable {w : World} {g : Nat} {T : TypeId} {s : ByteArray} {p : Nat} {bad : Bool}
theorem Rd.c0 (h : Rd w g T s p bad) : w.cell? ⟨g, 0, none⟩ = some (.string s) := by rw [cell_of_row w g 0 _ T (0, 0) h]; rfl
theorem Rd.c1 (h : Rd w g T s p bad) : w.cell? ⟨g, 1, none⟩ = some (.int .i64 (p : Int)) := by rw [cell_of_row w g 1 _ T (0, 0) h]; rfl
theorem Rd.c2 (h : Rd w g T s p bad) : w.cell? ⟨g, 2, none⟩ = some (.bool bad) := by rw [cell_of_row w g 2 _ T (0, 0) h]; rfl
theorem Rd.free (h : Rd w g T s p bad) (i : Nat) : w.frozen? ⟨g, i, none⟩ = false := frozen_of_row w g i _ T h
theorem Rd.go (h : Rd w g T s p bad) (q : Nat) : Rd (w.setCell ⟨g, 1, none⟩ (.int .i64 (q : Int))) g T s q bad := heap_setCell_same w g 1 _ T _ h
theorem Rd.spoil (h : Rd w g T s p bad) : Rd (w.setCell ⟨g, 2, none⟩ (.bool true)) g T s p true := heap_setCell_same w g 2 _ T _ h
theorem Rd.lt (h : Rd w g T s p bad) : g < w.heap.size := (Array.getElem?_eq_some_iff.1 h).1
theorem Rd.other {w' : World} {g' : Nat} (h : Rd w g T s p bad) (ho : Only g' w w') (hn : g ≠ g') : Rd w' g T s p bad := by
  have := ho.block g h.lt hn
  exact this.trans h
end

theorem ret_bool {a b : Bool} (h : a = b) : Ending.returned (.bool a) = .returned (.bool b) := by rw [h]

set_option maxHeartbeats 400000 in
theorem fine (g : Nat) (s : ByteArray) (p : Nat) (bad : Bool) (w : World) (h : Rd w g 108 s p bad) :
    Calls Try.prog 25 #[.pointer (some ⟨g, 0, none⟩)] w fun e w' => e = .returned (.bool (!bad)) ∧ w = w' := by
  have hc2 := h.c2
  go_enter Try.func25, Try.ntmps25
  go_wp2
  go_ret
  exact ⟨rfl, rfl⟩

theorem fine_nil (w : World) : Calls Try.prog 25 #[.pointer none] w fun e w' => e = .returned (.bool false) ∧ w = w' := by
  go_enter Try.func25, Try.ntmps25
  go_wp2
  go_ret
  exact ⟨rfl, rfl⟩

set_option maxHeartbeats 400000 in
theorem at_ (g : Nat) (s : ByteArray) (p : Nat) (bad : Bool) (w : World) (h : Rd w g 108 s p bad) :
    Calls Try.prog 23 #[.pointer (some ⟨g, 0, none⟩)] w fun e w' => e = .returned (.int .i64 (p : Int)) ∧ w = w' := by
  have hc1 := h.c1
  go_enter Try.func23, Try.ntmps23
  go_wp2
  go_ret
  exact ⟨rfl, rfl⟩

theorem at_nil (w : World) : Calls Try.prog 23 #[.pointer none] w fun e w' => e = .returned (.int .i64 0) ∧ w = w' := by
  go_enter Try.func23, Try.ntmps23
  go_wp2
  go_ret
  exact ⟨rfl, rfl⟩

set_option maxHeartbeats 400000 in
theorem left (g : Nat) (s : ByteArray) (p : Nat) (bad : Bool) (w : World) (h : Rd w g 108 s p bad) (hp : p ≤ s.size) (hs : s.size ≤ 9223372036854775807) :
    Calls Try.prog 24 #[.pointer (some ⟨g, 0, none⟩)] w fun e w' => ∃ n, e = .returned (.int .i64 ((s.size : Int) - p)) ∧ w' = w.drewN n := by
  have hc0 := h.c0
  have hc1 := h.c1
  go_enter Try.func24, Try.ntmps24
  go_wp2_with fail
  go_quiet (fail)
  go_wp2_with fail
  go_ret
  exact ⟨_, rfl, rfl⟩

theorem left_nil (w : World) : Calls Try.prog 24 #[.pointer none] w fun e w' => e = .returned (.int .i64 0) ∧ w = w' := by
  go_enter Try.func24, Try.ntmps24
  go_wp2
  go_ret
  exact ⟨rfl, rfl⟩

theorem read (s : ByteArray) (w : World) : Calls Try.prog 17 #[.string s] w fun e w' => e = .returned (.pointer (some ⟨w.heap.size, 0, none⟩)) ∧ w' = w.alloc (.cells #[.string s, .int .i64 0, .bool false] 108) := by
  go_enter Try.func17, Try.ntmps17
  go_wp2
  go_ret
  exact ⟨rfl, rfl⟩

/-- What a step leaves of a reader. -/
structure Left (w : World) (g : Nat) (T : TypeId) (s : ByteArray) (p : Nat) (bad : Bool) (w' : World) : Prop where
  rd : Rd w' g T s p bad
  only : Only g w w'

theorem Left.same {w : World} {g : Nat} {T : TypeId} {s : ByteArray} {p : Nat} {bad : Bool} (h : Rd w g T s p bad) : Left w g T s p bad w := ⟨h, Only.refl _ _⟩
theorem Left.spoilt {w : World} {g : Nat} {T : TypeId} {s : ByteArray} {p : Nat} {bad : Bool} (h : Rd w g T s p bad) (n : Nat) : Left w g T s p true ((w.setCell ⟨g, 2, none⟩ (.bool true)).drewN n) :=
  ⟨h.spoil, (Only.setCell g w 2 _).trans (Only.drewN _ _ _)⟩

set_option maxRecDepth 100000 in
set_option maxHeartbeats 400000 in
/-- A text that is there. -/
theorem text_yes (g : Nat) (s : ByteArray) (p n : Nat) (w : World) (h : Rd w g 108 s p false) (hp : p + n ≤ s.size) (hs : s.size ≤ 9223372036854775807) :
    Calls Try.prog 20 #[.pointer (some ⟨g, 0, none⟩), .int .i64 (n : Int)] w fun e w' => e = .returned (.string (s.extract p (p + n))) ∧ Left w g 108 s (p + n) false w' := by
  have HR := hid h
  have hc0 := h.c0
  have hc1 := h.c1
  have hf := h.free 1
  clear h
  go_enter Try.func20, Try.ntmps20
  go_wp2_with fail
  refine (fine g s p false _ HR.out).mono ?_
  rintro e w' ⟨rfl, rfl⟩
  go_wp2_with fail
  refine (left g s p false _ HR.out (by omega) hs).mono ?_
  rintro e w' ⟨nq, rfl, rfl⟩
  go_wp2_with fail
  go_quiet (fail)
  go_wp2_with fail
  go_ret
  exact ⟨rfl, by have := HR.out.go (p + n); exact this, ((Only.drewN g w _).trans (Only.setCell g _ 1 _)).trans (Only.drewN _ _ _)⟩

set_option maxRecDepth 100000 in
set_option maxHeartbeats 400000 in
/-- A text that isn't there. -/
theorem text_no (g : Nat) (s : ByteArray) (p : Nat) (n : Int) (w : World) (h : Rd w g 108 s p false) (hp : p ≤ s.size) (hn : n < 0 ∨ (s.size : Int) - p < n) (hs : s.size ≤ 9223372036854775807) :
    Calls Try.prog 20 #[.pointer (some ⟨g, 0, none⟩), .int .i64 n] w fun e w' => e = .returned (.string ⟨#[]⟩) ∧ Left w g 108 s p true w' := by
  have HR := hid h
  have hc2 := h.c2
  have hf := h.free 2
  clear h
  by_cases hneg : n < 0
  · clear hn
    go_enter Try.func20, Try.ntmps20
    go_wp2_with fail
    refine (fine g s p false _ HR.out).mono ?_
    rintro e w' ⟨rfl, rfl⟩
    go_wp2_with fail
    go_ret
    exact ⟨rfl, Left.spoilt HR.out 0⟩
  · have hn2 : (s.size : Int) - p < n := by omega
    clear hn
    go_enter Try.func20, Try.ntmps20
    go_wp2_with fail
    refine (fine g s p false _ HR.out).mono ?_
    rintro e w' ⟨rfl, rfl⟩
    go_wp2_with fail
    refine (left g s p false _ HR.out hp hs).mono ?_
    rintro e w' ⟨nq, rfl, rfl⟩
    go_wp2_with fail
    go_ret
    exact ⟨rfl, HR.out.spoil, (Only.drewN g w nq).trans (Only.setCell g _ 2 _)⟩

set_option maxHeartbeats 400000 in
theorem text_bad (g : Nat) (s : ByteArray) (p : Nat) (n : Int) (w : World) (h : Rd w g 108 s p true) :
    Calls Try.prog 20 #[.pointer (some ⟨g, 0, none⟩), .int .i64 n] w fun e w' => e = .returned (.string ⟨#[]⟩) ∧ Left w g 108 s p true w' := by
  have HR := hid h
  clear h
  go_enter Try.func20, Try.ntmps20
  go_wp2_with fail
  refine (fine g s p true _ HR.out).mono ?_
  rintro e w' ⟨rfl, rfl⟩
  go_wp2_with fail
  go_ret
  exact ⟨rfl, Left.same HR.out⟩

theorem text_nil (n : Int) (w : World) : Calls Try.prog 20 #[.pointer none, .int .i64 n] w fun e w' => e = .returned (.string ⟨#[]⟩) ∧ w = w' := by
  go_enter Try.func20, Try.ntmps20
  go_wp2_with fail
  refine (fine_nil _).mono ?_
  rintro e w' ⟨rfl, rfl⟩
  go_wp2_with fail
  go_ret
  exact ⟨rfl, rfl⟩

set_option maxRecDepth 100000 in
set_option maxHeartbeats 400000 in
/-- The document's own: a text that is there. -/
theorem refText_yes (g : Nat) (s : ByteArray) (p n : Nat) (w : World) (h : Rd w g 33 s p false) (hp : p + n ≤ s.size) (hs : s.size ≤ 9223372036854775807) :
    Calls Try.prog 21 #[.pointer (some ⟨g, 0, none⟩), .int .i64 (n : Int)] w fun e w' => e = .returned (.string (s.extract p (p + n))) ∧ Left w g 33 s (p + n) false w' := by
  have HR := hid h
  have hc0 := h.c0
  have hc1 := h.c1
  have hc2 := h.c2
  have hf := h.free 1
  clear h
  have hn1 : decide ((n : Int) < 0) = false := by simp
  go_enter Try.func21, Try.ntmps21
  go_wp2_with fail
  go_quiet (fail)
  go_wp2_with fail
  have hsum : IntKind.i64.wrap ((p : Int) + (n : Int)) = (p : Int) + n := IntWalk.i64_in _ (by omega)
  have hsum0 : (0 : Int) ≤ (p : Int) + n := by omega
  have hsum1 : ((p : Int) + (n : Int)).toNat = p + n := by omega
  go_quiet (fail)
  clear hsum hsum0 hsum1
  go_wp2_with fail
  go_ret
  exact ⟨rfl, by have := HR.out.go (p + n); exact this, (Only.drewN g w _).trans (Only.setCell g _ 1 _)⟩

set_option maxRecDepth 100000 in
set_option maxHeartbeats 400000 in
/-- .. that isn't there. -/
theorem refText_no (g : Nat) (s : ByteArray) (p : Nat) (n : Int) (w : World) (h : Rd w g 33 s p false) (hp : p ≤ s.size) (hn : n < 0 ∨ (s.size : Int) - p < n) (hs : s.size ≤ 9223372036854775807) :
    Calls Try.prog 21 #[.pointer (some ⟨g, 0, none⟩), .int .i64 n] w fun e w' => e = .returned (.string ⟨#[]⟩) ∧ Left w g 33 s p true w' := by
  have HR := hid h
  have hc0 := h.c0
  have hc1 := h.c1
  have hc2 := h.c2
  have hf := h.free 2
  clear h
  by_cases hneg : n < 0
  · clear hn
    go_enter Try.func21, Try.ntmps21
    go_wp2_with fail
    go_quiet (fail)
    go_wp2_with fail
    go_ret
    exact ⟨rfl, HR.out.spoil, (Only.drewN g w _).trans (Only.setCell g _ 2 _)⟩
  · have hn2 : (s.size : Int) - p < n := by omega
    clear hn
    have hn1 : decide ((n : Int) < 0) = false := by simpa using hneg
    go_enter Try.func21, Try.ntmps21
    go_wp2_with fail
    go_quiet (fail)
    go_wp2_with fail
    go_ret
    exact ⟨rfl, HR.out.spoil, (Only.drewN g w _).trans (Only.setCell g _ 2 _)⟩

set_option maxRecDepth 100000 in
set_option maxHeartbeats 400000 in
theorem refText_bad (g : Nat) (s : ByteArray) (p : Nat) (n : Int) (w : World) (h : Rd w g 33 s p true) :
    Calls Try.prog 21 #[.pointer (some ⟨g, 0, none⟩), .int .i64 n] w fun e w' => e = .returned (.string ⟨#[]⟩) ∧ Left w g 33 s p true w' := by
  have HR := hid h
  have hc2 := h.c2
  have hf := h.free 2
  clear h
  go_enter Try.func21, Try.ntmps21
  go_wp2_with fail
  go_quiet (fail)
  go_wp2_with fail
  go_ret
  exact ⟨rfl, HR.out.spoil, (Only.drewN g w _).trans (Only.setCell g _ 2 _)⟩

end Fld
end Go.Proofs.Ythblaceldoikeaa
