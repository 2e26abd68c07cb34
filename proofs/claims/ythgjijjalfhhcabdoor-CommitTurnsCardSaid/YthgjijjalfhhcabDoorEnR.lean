/- WALKS over readers of fields: the program's, and the document's own: each step tells the same and leaves the same. -/
import Derived.Test.YthgjijjalfhhcabDoorEnG
import Derived.Deep.QuietTactic
import Derived.BigQuiet
import Derived.Deep.RegionHeld3
import Derived.Deep.DrawnRows
namespace Go.Proofs.YthgjijjalfhhcabDoor
set_option linter.unusedVariables false
open Go.RowKit
open Go.Proofs.Num
namespace Fld

/-- A reader's three cells. -/
def Rd (w : World) (g : Nat) (T : TypeId) (s : ByteArray) (p : Nat) (bad : Bool) : Prop := w.heap[g]? = some (.cells #[.string s, .int .i64 (p : Int), .bool bad] T (0, 0))

/-- Of what was there, block g alone may have changed. -/
structure Only (g : Nat) (w w' : World) : Prop where
  os : w'.os = w.os
  tape : w'.tape = w.tape
  output : w'.output = w.output
  size : w.heap.size ≤ w'.heap.size
  block : ∀ k, k < w.heap.size → k ≠ g → w'.heap[k]? = w.heap[k]?

theorem Only.refl (g : Nat) (w : World) : Only g w w := ⟨rfl, rfl, rfl, Nat.le_refl _, fun _ _ _ => rfl⟩
theorem Only.trans {g : Nat} {a b c : World} (h : Only g a b) (k : Only g b c) : Only g a c :=
  ⟨k.os.trans h.os, k.tape.trans h.tape, k.output.trans h.output, Nat.le_trans h.size k.size, fun i hi hn => (k.block i (Nat.lt_of_lt_of_le hi h.size) hn).trans (h.block i hi hn)⟩
theorem Only.drewN (g : Nat) (w : World) (n : Nat) : Only g w (w.drewN n) := ⟨rfl, rfl, rfl, Nat.le_refl _, fun _ _ _ => rfl⟩
theorem Only.setCell (g : Nat) (w : World) (i : Nat) (v : Value) : Only g w (w.setCell ⟨g, i, none⟩ v) :=
  ⟨rfl, rfl, rfl, by simp [World.setCell], fun k _ hn => heap_setCell_other w ⟨g, i, none⟩ k v hn⟩
theorem Only.below {g : Nat} {a w w' : World} (h : Only g w w') (hb : Below a.heap.size a w) (hg : a.heap.size ≤ g) : Below a.heap.size a w' :=
  hb.trans ⟨h.os, h.tape, h.output, h.size, fun k hk => h.block k (Nat.lt_of_lt_of_le hk hb.size) (by omega)⟩

section
variable {w : World} {g : Nat} {T : TypeId} {s : ByteArray} {p : Nat} {bad : Bool}
theorem Rd.c0 (h : Rd w g T s p bad) : w.cell? ⟨g, 0, none⟩ = some (.string s) := by rw [cell_of_row w g 0 _ T (0, 0) h]; rfl
theorem Rd.c1 (h : Rd w g T s p bad) : w.cell? ⟨g, 1, none⟩ = some (.int .i64 (p : Int)) := by rw [cell_of_row w g 1 _ T (0, 0) h]; rfl
theorem Rd.c2 (h : Rd w g T s p bad) : w.cell? ⟨g, 2, none⟩ = some (.bool bad) := by rw [cell_of_row w g 2 _ T (0, 0) h]; rfl
theorem Rd.free (h : Rd w g T s p bad) (i : Nat) : w.frozen? ⟨g, i, none⟩ = false := frozen_of_row w g i _ T h
theorem Rd.go (h : Rd w g T s p bad) (q : Nat) : Rd (w.setCell ⟨g, 1, none⟩ (.int .i64 (q : Int))) g T s q bad := heap_setCell_same w g 1 _ T _ h
theorem Rd.spoil (h : Rd w g T s p bad) : Rd (w.setCell ⟨g, 2, none⟩ (.bool true)) g T s p true := heap_setCell_same w g 2 _ T _ h
theorem Rd.lt (h : Rd w g T s p bad) : g < w.heap.size := (Array.getElem?_eq_some_iff.1 h).1
theorem Rd.other {w' : World} {g' : Nat} (h : Rd w g T s p bad) (ho : Only g' w w') (hn : g ≠ g') : Rd w' g T s p bad := by
  have := ho.block g h.lt hn
  exact this.trans h
end

theorem ret_bool {a b : Bool} (h : a = b) : Ending.returned (.bool a) = .returned (.bool b) := by rw [h]

set_option maxHeartbeats 400000 in
theorem fine (g : Nat) (s : ByteArray) (p : Nat) (bad : Bool) (w : World) (h : Rd w g 69 s p bad) :
    Calls Tryd.prog 39 #[.pointer (some ⟨g, 0, none⟩)] w fun e w' => e = .returned (.bool (!bad)) ∧ w = w' := by
  have hc2 := h.c2
  go_enter Tryd.func39, Tryd.ntmps39
  go_wp2
  go_ret
  exact ⟨rfl, rfl⟩

set_option maxHeartbeats 400000 in
theorem left (g : Nat) (s : ByteArray) (p : Nat) (bad : Bool) (w : World) (h : Rd w g 69 s p bad) (hp : p ≤ s.size) (hs : s.size ≤ 9223372036854775807) :
    Calls Tryd.prog 26 #[.pointer (some ⟨g, 0, none⟩)] w fun e w' => ∃ n, e = .returned (.int .i64 ((s.size : Int) - p)) ∧ w' = w.drewN n := by
  have hc0 := h.c0
  have hc1 := h.c1
  go_enter Tryd.func26, Tryd.ntmps26
  go_wp2_with fail
  go_quiet (fail)
  go_wp2_with fail
  go_ret
  exact ⟨_, rfl, rfl⟩

theorem read (s : ByteArray) (w : World) : Calls Tryd.prog 23 #[.string s] w fun e w' => e = .returned (.pointer (some ⟨w.heap.size, 0, none⟩)) ∧ w' = w.alloc (.cells #[.string s, .int .i64 0, .bool false] 69) := by
  go_enter Tryd.func23, Tryd.ntmps23
  go_wp2
  go_ret
  exact ⟨rfl, rfl⟩

/-- What a step leaves of a reader. -/
structure Left (w : World) (g : Nat) (T : TypeId) (s : ByteArray) (p : Nat) (bad : Bool) (w' : World) : Prop where
  rd : Rd w' g T s p bad
  only : Only g w w'

theorem Left.same {w : World} {g : Nat} {T : TypeId} {s : ByteArray} {p : Nat} {bad : Bool} (h : Rd w g T s p bad) : Left w g T s p bad w := ⟨h, Only.refl _ _⟩
theorem Left.spoilt {w : World} {g : Nat} {T : TypeId} {s : ByteArray} {p : Nat} {bad : Bool} (h : Rd w g T s p bad) (n : Nat) : Left w g T s p true ((w.setCell ⟨g, 2, none⟩ (.bool true)).drewN n) :=
  ⟨h.spoil, (Only.setCell g w 2 _).trans (Only.drewN _ _ _)⟩

set_option maxRecDepth 100000 in
set_option maxHeartbeats 1000000 in
theorem num_bad (g : Nat) (s : ByteArray) (p : Nat) (n : Int) (w : World) (h : Rd w g 69 s p true) :
    Calls Tryd.prog 25 #[.pointer (some ⟨g, 0, none⟩), .int .i64 n] w fun e w' => e = .returned (.int .u64 0) ∧ Left w g 69 s p true w' := by
  have HR := hid h
  clear h
  go_enter Tryd.func25, Tryd.ntmps25
  go_wp2_with fail
  refine (fine g s p true _ HR.out).mono ?_
  rintro e w' ⟨rfl, rfl⟩
  go_wp2_with fail
  go_ret
  exact ⟨rfl, Left.same HR.out⟩

set_option maxRecDepth 100000 in
set_option maxHeartbeats 1000000 in
/-- A number that is there. -/
theorem num_yes (g : Nat) (s : ByteArray) (p n : Nat) (a : Int) (w : World) (h : Rd w g 69 s p false) (hp : p + n ≤ s.size) (hs : s.size ≤ 9223372036854775807)
    (hg : ∀ w, Calls Tryd.prog 40 #[.string (s.extract p s.size), .int .i64 (n : Int)] w fun e w' => e = .returned (.tuple #[.int .u64 a, .bool true]) ∧ w = w') :
    Calls Tryd.prog 25 #[.pointer (some ⟨g, 0, none⟩), .int .i64 (n : Int)] w fun e w' => e = .returned (.int .u64 a) ∧ Left w g 69 s (p + n) false w' := by
  have HR := hid h
  have HG := hid hg
  have hc0 := h.c0
  have hc1 := h.c1
  have hf := h.free 1
  clear h hg
  go_enter Tryd.func25, Tryd.ntmps25
  go_wp2_with fail
  refine (fine g s p false _ HR.out).mono ?_
  rintro e w' ⟨rfl, rfl⟩
  go_wp2_with fail
  go_quiet ((go_at_call 40; exact Calls.quiet_of_same ((HG.out _).mono fun e w' h => ⟨h.1, h.2.symm⟩)))
  go_wp2_with fail
  go_ret
  exact ⟨rfl, by have := HR.out.go (p + n); exact this, (Only.drewN g w _).trans (Only.setCell g _ 1 _)⟩

set_option maxRecDepth 100000 in
set_option maxHeartbeats 1000000 in
/-- A number that isn't there. -/
theorem num_no (g : Nat) (s : ByteArray) (p : Nat) (n : Int) (w : World) (h : Rd w g 69 s p false) (hp : p ≤ s.size) (hs : s.size ≤ 9223372036854775807)
    (hg : ∀ w, Calls Tryd.prog 40 #[.string (s.extract p s.size), .int .i64 n] w fun e w' => e = .returned (.tuple #[.int .u64 0, .bool false]) ∧ w = w') :
    Calls Tryd.prog 25 #[.pointer (some ⟨g, 0, none⟩), .int .i64 n] w fun e w' => e = .returned (.int .u64 0) ∧ Left w g 69 s p true w' := by
  have HR := hid h
  have HG := hid hg
  have hc0 := h.c0
  have hc1 := h.c1
  have hc2 := h.c2
  have hf := h.free 2
  clear h hg
  go_enter Tryd.func25, Tryd.ntmps25
  go_wp2_with fail
  refine (fine g s p false _ HR.out).mono ?_
  rintro e w' ⟨rfl, rfl⟩
  go_wp2_with fail
  go_quiet ((go_at_call 40; exact Calls.quiet_of_same ((HG.out _).mono fun e w' h => ⟨h.1, h.2.symm⟩)))
  go_wp2_with fail
  go_ret
  exact ⟨rfl, HR.out.spoil, (Only.drewN g w _).trans (Only.setCell g _ 2 _)⟩

end Fld
end Go.Proofs.YthgjijjalfhhcabDoor
