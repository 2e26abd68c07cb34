/- WALKS over readers of bits: what is there is read. -/
import Derived.Test.YtlgnapapofgdfaaBitU
import Derived.Deep.QuietTactic
import Derived.BigQuiet
import Derived.Deep.RegionHeld3
namespace Go.Proofs.Ytlgnapapofgdfaa
set_option linter.unusedVariables false
open Go.RowKit
open Go.Proofs.Bit
attribute [local go_sem ↓] Go.wp_at_zero Go.wp_at_succ

/-- A reader's three cells; it is fine. -/
def Rd (w : World) (g : Nat) (s : ByteArray) (p : Nat) : Prop := w.heap[g]? = some (.cells #[.string s, .int .i64 (p : Int), .bool false] 51 (0, 0))

/-- Of what was there, block g alone may have changed. -/
structure Only (g : Nat) (w w' : World) : Prop where
  os : w'.os = w.os
  tape : w'.tape = w.tape
  output : w'.output = w.output
  size : w.heap.size ≤ w'.heap.size
  block : ∀ k, k < w.heap.size → k ≠ g → w'.heap[k]? = w.heap[k]?
theorem Only.refl (g : Nat) (w : World) : Only g w w := ⟨rfl, rfl, rfl, Nat.le_refl _, fun _ _ _ => rfl⟩
theorem Only.trans {g : Nat} {a b c : World} (h : Only g a b) (k : Only g b c) : Only g a c :=
  ⟨k.os.trans h.os, k.tape.trans h.tape, k.output.trans h.output, Nat.le_trans h.size k.size, fun i hi hn => (k.block i (Nat.lt_of_lt_of_le hi h.size) hn).trans (h.block i hi hn)⟩
theorem Only.drewN (g : Nat) (w : World) (n : Nat) : Only g w (w.drewN n) := ⟨rfl, rfl, rfl, Nat.le_refl _, fun _ _ _ => rfl⟩
theorem Only.drew (g : Nat) (w : World) : Only g w w.drew := ⟨rfl, rfl, rfl, Nat.le_refl _, fun _ _ _ => rfl⟩
theorem Only.setCell (g : Nat) (w : World) (i : Nat) (v : Value) : Only g w (w.setCell ⟨g, i, none⟩ v) :=
  ⟨rfl, rfl, rfl, by simp [World.setCell], fun k _ hn => heap_setCell_other w ⟨g, i, none⟩ k v hn⟩
theorem Only.below {g : Nat} {a w w' : World} (h : Only g w w') (hb : Below a.heap.size a w) (hg : a.heap.size ≤ g) : Below a.heap.size a w' :=
  hb.trans ⟨h.os, h.tape, h.output, h.size, fun k hk => h.block k (Nat.lt_of_lt_of_le hk hb.size) (by omega)⟩

section
variable {w : World} {g : Nat} {s : ByteArray} {p : Nat}
theorem Rd.c0 (h : Rd w g s p) : w.cell? ⟨g, 0, none⟩ = some (.string s) := by rw [cell_of_row w g 0 _ 51 (0, 0) h]; rfl
theorem Rd.c1 (h : Rd w g s p) : w.cell? ⟨g, 1, none⟩ = some (.int .i64 (p : Int)) := by rw [cell_of_row w g 1 _ 51 (0, 0) h]; rfl
theorem Rd.c2 (h : Rd w g s p) : w.cell? ⟨g, 2, none⟩ = some (.bool false) := by rw [cell_of_row w g 2 _ 51 (0, 0) h]; rfl
theorem Rd.free (h : Rd w g s p) (i : Nat) : w.frozen? ⟨g, i, none⟩ = false := frozen_of_row w g i _ 51 h
theorem Rd.go (h : Rd w g s p) (q : Nat) : Rd (w.setCell ⟨g, 1, none⟩ (.int .i64 (q : Int))) g s q := heap_setCell_same w g 1 _ 51 _ h
theorem Rd.lt (h : Rd w g s p) : g < w.heap.size := (Array.getElem?_eq_some_iff.1 h).1
end

theorem rread (s : ByteArray) (w : World) : Calls Try.prog 15 #[.string s] w fun e w' => e = .returned (.pointer (some ⟨w.heap.size, 0, none⟩)) ∧ w' = w.alloc (.cells #[.string s, .int .i64 0, .bool false] 51) := by
  go_enter Try.func15, Try.ntmps15
  go_wp2
  go_ret
  exact ⟨rfl, rfl⟩

set_option maxHeartbeats 400000 in
theorem rfine (g : Nat) (s : ByteArray) (p : Nat) (w : World) (h : Rd w g s p) : Calls Try.prog 19 #[.pointer (some ⟨g, 0, none⟩)] w fun e w' => e = .returned (.bool true) ∧ w = w' := by
  have hc2 := h.c2
  go_enter Try.func19, Try.ntmps19
  go_wp2
  go_ret
  exact ⟨rfl, rfl⟩

set_option maxHeartbeats 400000 in
theorem rleft (g : Nat) (s : ByteArray) (p : Nat) (w : World) (h : Rd w g s p) (hp : p ≤ 8 * s.size) (hs : s.size ≤ 1048576) :
    Calls Try.prog 20 #[.pointer (some ⟨g, 0, none⟩)] w fun e w' => ∃ n, e = .returned (.int .i64 ((s.size : Int) * 8 - p)) ∧ w' = w.drewN n := by
  have hc0 := h.c0
  have hc1 := h.c1
  have e1 : IntKind.i64.wrap ((s.size : Int) * 8) = (s.size : Int) * 8 := IntWalk.i64_in _ (by omega)
  have e2 : IntKind.i64.wrap ((s.size : Int) * 8 - p) = (s.size : Int) * 8 - p := IntWalk.i64_in _ (by omega)
  go_enter Try.func20, Try.ntmps20
  go_wp2_with fail
  go_quiet (fail)
  go_wp2_with fail
  go_ret
  exact ⟨_, rfl, rfl⟩

set_option maxHeartbeats 400000 in
theorem rused (g : Nat) (s : ByteArray) (p : Nat) (w : World) (h : Rd w g s p) (hp : p ≤ 1000000000) :
    Calls Try.prog 23 #[.pointer (some ⟨g, 0, none⟩)] w fun e w' => e = .returned (.int .i64 (((p + 7) / 8 : Nat) : Int)) ∧ w = w' := by
  have hc1 := h.c1
  go_enter Try.func23, Try.ntmps23
  go_wp2_with fail
  go_ret
  exact ⟨ret_int (by omega), rfl⟩

/-- What a step leaves of a reader. -/
structure Left (w : World) (g : Nat) (s : ByteArray) (p : Nat) (w' : World) : Prop where
  rd : Rd w' g s p
  only : Only g w w'

set_option maxHeartbeats 400000 in
theorem ralignP (g : Nat) (s : ByteArray) (p : Nat) (w : World) (h : Rd w g s p) (hp : p ≤ 1000000000) :
    Calls Try.prog 21 #[.pointer (some ⟨g, 0, none⟩)] w fun e w' => e = .returned (.tuple #[]) ∧ Left w g s (up8 p) w' := by
  have HR := hid h
  have hf := h.free 1
  have e1 : IntKind.i64.wrap ((((p + 7) / 8 : Nat) : Int) * 8) = ((up8 p : Nat) : Int) := by rw [IntWalk.i64_in _ (by omega)]; unfold up8; omega
  clear h
  go_enter Try.func21, Try.ntmps21
  go_wp2_with fail
  refine (rfine g s p _ HR.out).mono ?_
  rintro e w' ⟨rfl, rfl⟩
  go_wp2_with fail
  refine (rused g s p _ HR.out hp).mono ?_
  rintro e w' ⟨rfl, rfl⟩
  have hc1 := HR.out.c1
  go_wp2_with fail
  go_returns
  refine ⟨rfl, ?_⟩
  have hv : Value.int .i64 (((p : Int) + 7) / 8 * 8) = .int .i64 ((up8 p : Nat) : Int) := val_int (by unfold up8; omega)
  rw [hv]
  exact ⟨HR.out.go (up8 p), Only.setCell g _ 1 _⟩

set_option maxRecDepth 100000 in
set_option maxHeartbeats 400000 in
theorem rtextP (g : Nat) (s : ByteArray) (p n : Nat) (w : World) (h : Rd w g s p) (hs : s.size ≤ 1048576) (hp : up8 p / 8 + n ≤ s.size) :
    Calls Try.prog 16 #[.pointer (some ⟨g, 0, none⟩), .int .i64 (n : Int)] w fun e w' => e = .returned (.string (s.extract (up8 p / 8) (up8 p / 8 + n))) ∧ Left w g s (up8 p + 8 * n) w' := by
  have HR := hid h
  have hu := up8_le p
  have hm := up8_mod p
  have hP : up8 p ≤ 8388608 := by omega
  obtain ⟨P, hPe⟩ : ∃ P, up8 p = P := ⟨_, rfl⟩
  rw [hPe] at hp hu hm hP
  have HP := hid hPe
  rw [hPe]
  clear h hPe
  go_enter Try.func16, Try.ntmps16
  go_wp2_with fail
  refine (rfine g s p _ HR.out).mono ?_
  rintro e w' ⟨rfl, rfl⟩
  go_wp2_with fail
  refine (ralignP g s p _ HR.out (by omega)).mono ?_
  rintro e w1 ⟨rfl, hl⟩
  rw [HP.out] at hl
  have HL := hid hl
  clear hl
  have hc0 := HL.out.rd.c0
  have hc1 := HL.out.rd.c1
  have hf := HL.out.rd.free 1
  go_wp2_with fail
  go_ret
  refine ⟨rfl, ?_⟩
  have hv : Value.int .i64 ((P : Int) + (n : Int) * 8) = .int .i64 ((P + 8 * n : Nat) : Int) := val_int (by omega)
  rw [hv]
  exact ⟨HL.out.rd.go (P + 8 * n), HL.out.only.trans (Only.setCell g _ 1 _)⟩
end Go.Proofs.Ytlgnapapofgdfaa
