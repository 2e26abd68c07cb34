/- WALKS over the program's reader of bits. -/
import Derived.Test.YtlfohihmkfphhaaHufQ
import Derived.Test.YtlfohihmkfphhaaHrM
import Derived.Laws.Bits64b
import Derived.IntWalk
import Derived.Deep.RegionHeld3
import Derived.Deep.DrawnRows
namespace Go.Proofs.Ytlfohihmkfphhaa
set_option linter.unusedVariables false
open Go.RowKit
open Go.Proofs.Huf
attribute [local go_sem ↓] Go.wp_at_zero Go.wp_at_succ
namespace Huff

/-- A reader's three cells; it is fine. -/
def Rd (w : World) (g : Nat) (s : ByteArray) (p : Nat) : Prop := w.heap[g]? = some (.cells #[.string s, .int .i64 (p : Int), .bool false] 71 (0, 0))

/-- Of what was there, block g alone may have changed. -/
structure Only (g : Nat) (w w' : World) : Prop where
  os : w'.os = w.os
  tape : w'.tape = w.tape
  output : w'.output = w.output
  size : w.heap.size ≤ w'.heap.size
  block : ∀ k, k < w.heap.size → k ≠ g → w'.heap[k]? = w.heap[k]?
theorem Only.refl (g : Nat) (w : World) : Only g w w := ⟨rfl, rfl, rfl, Nat.le_refl _, fun _ _ _ => rfl⟩
theorem Only.trans {g : Nat} {a b c : World} (h : Only g a b) (k : Only g b c) : Only g a c :=
  ⟨k.os.trans h.os, k.tape.trans h.tape, k.output.trans h.output, Nat.le_trans h.size k.size, fun i hi hn => (k.block i (Nat.lt_of_lt_of_le hi h.size) hn).trans (h.block i hi hn)⟩
theorem Only.drewN (g : Nat) (w : World) (n : Nat) : Only g w (w.drewN n) := ⟨rfl, rfl, rfl, Nat.le_refl _, fun _ _ _ => rfl⟩
theorem Only.drew (g : Nat) (w : World) : Only g w w.drew := ⟨rfl, rfl, rfl, Nat.le_refl _, fun _ _ _ => rfl⟩
theorem Only.setCell (g : Nat) (w : World) (i : Nat) (v : Value) : Only g w (w.setCell ⟨g, i, none⟩ v) :=
  ⟨rfl, rfl, rfl, by simp [World.setCell], fun k _ hn => heap_setCell_other w ⟨g, i, none⟩ k v hn⟩
theorem Only.below {g : Nat} {a w w' : World} (h : Only g w w') (hb : Below a.heap.size a w) (hg : a.heap.size ≤ g) : Below a.heap.size a w' :=
  hb.trans ⟨h.os, h.tape, h.output, h.size, fun k hk => h.block k (Nat.lt_of_lt_of_le hk hb.size) (by omega)⟩

section
variable {w : World} {g : Nat} {s : ByteArray} {p : Nat}
theorem Rd.c0 (h : Rd w g s p) : w.cell? ⟨g, 0, none⟩ = some (.string s) := by rw [cell_of_row w g 0 _ 71 (0, 0) h]; rfl
theorem Rd.c1 (h : Rd w g s p) : w.cell? ⟨g, 1, none⟩ = some (.int .i64 (p : Int)) := by rw [cell_of_row w g 1 _ 71 (0, 0) h]; rfl
theorem Rd.c2 (h : Rd w g s p) : w.cell? ⟨g, 2, none⟩ = some (.bool false) := by rw [cell_of_row w g 2 _ 71 (0, 0) h]; rfl
theorem Rd.free (h : Rd w g s p) (i : Nat) : w.frozen? ⟨g, i, none⟩ = false := frozen_of_row w g i _ 71 h
theorem Rd.go (h : Rd w g s p) (q : Nat) : Rd (w.setCell ⟨g, 1, none⟩ (.int .i64 (q : Int))) g s q := heap_setCell_same w g 1 _ 71 _ h
theorem Rd.lt (h : Rd w g s p) : g < w.heap.size := (Array.getElem?_eq_some_iff.1 h).1
end

theorem rread (s : ByteArray) (w : World) : Calls Try.prog 22 #[.string s] w fun e w' => e = .returned (.pointer (some ⟨w.heap.size, 0, none⟩)) ∧ w' = w.alloc (.cells #[.string s, .int .i64 0, .bool false] 71) := by
  go_enter Try.func22, Try.ntmps22
  go_wp2
  go_ret
  exact ⟨rfl, rfl⟩

set_option maxHeartbeats 400000 in
theorem rfine (g : Nat) (s : ByteArray) (p : Nat) (w : World) (h : Rd w g s p) : Calls Try.prog 47 #[.pointer (some ⟨g, 0, none⟩)] w fun e w' => e = .returned (.bool true) ∧ w = w' := by
  have hc2 := h.c2
  go_enter Try.func47, Try.ntmps47
  go_wp2
  go_ret
  exact ⟨rfl, rfl⟩

set_option maxHeartbeats 400000 in
theorem rleft (g : Nat) (s : ByteArray) (p : Nat) (w : World) (h : Rd w g s p) (hp : p ≤ 8 * s.size) (hs : s.size ≤ 1048576) :
    Calls Try.prog 48 #[.pointer (some ⟨g, 0, none⟩)] w fun e w' => ∃ n, e = .returned (.int .i64 ((s.size : Int) * 8 - p)) ∧ w' = w.drewN n := by
  have hc0 := h.c0
  have hc1 := h.c1
  have e1 : IntKind.i64.wrap ((s.size : Int) * 8) = (s.size : Int) * 8 := IntWalk.i64_in _ (by omega)
  have e2 : IntKind.i64.wrap ((s.size : Int) * 8 - p) = (s.size : Int) * 8 - p := IntWalk.i64_in _ (by omega)
  go_enter Try.func48, Try.ntmps48
  go_wp2_with fail
  go_quiet (fail)
  go_wp2_with fail
  go_ret
  exact ⟨_, rfl, rfl⟩

/-- What a step leaves of a reader. -/
structure Left (w : World) (g : Nat) (s : ByteArray) (p : Nat) (w' : World) : Prop where
  rd : Rd w' g s p
  only : Only g w w'

theorem low_succ (X k : Nat) : X % 256 ^ (k + 1) = X % 256 ^ k + 2 ^ (8 * k) * (X / 256 ^ k % 256) := by
  rw [← p256, Nat.pow_succ, Nat.mod_mul]
theorem or_add40 (a x k : Nat) (ha : a < 256 ^ k) (hk : k ≤ 4) (hx : x < 256) :
    bits .or .u64 (a : Int) (IntKind.u64.wrap ((x : Int) * 2 ^ (8 * k))) = ((a + 2 ^ (8 * k) * x : Nat) : Int) := by
  rw [p256] at ha
  have hp : 2 ^ (8 * k) ≤ 2 ^ 32 := Nat.pow_le_pow_right (by decide) (by omega)
  have e0 : ((x : Int) * 2 ^ (8 * k)) = ((x * 2 ^ (8 * k) : Nat) : Int) := by simp
  have hb : x * 2 ^ (8 * k) ≤ 255 * 2 ^ 32 := Nat.mul_le_mul (by omega) hp
  have e1 : IntKind.u64.wrap ((x : Int) * 2 ^ (8 * k)) = ((x * 2 ^ (8 * k) : Nat) : Int) := by rw [e0, IntKind.wrap_u64]; omega
  rw [e1, bits_or_u64_nat a (x * 2 ^ (8 * k)) (by omega) (by omega), Nat.or_comm, Nat.mul_comm, ← Nat.two_pow_add_eq_or_of_lt ha, Nat.add_comm]

theorem mask64w (v k : Nat) (hk : k ≤ 32) (hv : v < 18446744073709551616) : bits .and .u64 (v : Int) (IntKind.u64.wrap (IntKind.u64.wrap (2 ^ k) - 1)) = ((v % 2 ^ k : Nat) : Int) := by
  have hp : 2 ^ k ≤ 2 ^ 32 := Nat.pow_le_pow_right (by decide) hk
  have hp0 : 1 ≤ 2 ^ k := Nat.one_le_two_pow
  have e0 : ((2 : Int) ^ k) = ((2 ^ k : Nat) : Int) := by simp
  have e1 : IntKind.u64.wrap (IntKind.u64.wrap (2 ^ k) - 1) = ((2 ^ k - 1 : Nat) : Int) := by
    rw [e0, IntKind.wrap_u64, IntKind.wrap_u64]
    omega
  rw [e1, bits_and_u64_nat v (2 ^ k - 1) (by omega) (by omega), Nat.and_two_pow_sub_one_eq_mod]

set_option maxRecDepth 100000 in
set_option maxHeartbeats 1000000 in
theorem rbitsP (g : Nat) (s : ByteArray) (p n N : Nat) (w : World) (h : Rd w g s p) (hs : s.size ≤ 1048576) (hn : n ≤ 32) (hp : p + n ≤ 8 * s.size) (hN : ∀ i (h : i < s.size), (s[i]).toNat = N / 256 ^ i % 256) :
    Calls Try.prog 23 #[.pointer (some ⟨g, 0, none⟩), .int .i64 (n : Int)] w fun e w' => e = .returned (.int .u32 ((N / 2 ^ p % 2 ^ n : Nat) : Int)) ∧ Left w g s (p + n) w' := by
  have HR := hid h
  have HN := hid hN
  have hpp : p ≤ 8388608 := by omega
  clear h hN
  go_enter Try.func23, Try.ntmps23
  go_wp2_with fail
  refine (rfine g s p _ HR.out).mono ?_
  rintro e w' ⟨rfl, rfl⟩
  go_wp2_with fail
  refine (rleft g s p _ HR.out (by omega) hs).mono ?_
  rintro e w' ⟨nq0, rfl, rfl⟩
  have hc0 := HR.out.c0
  have hc1 := HR.out.c1
  have hf := HR.out.free 1
  go_wp2_with fail
  go_quiet (fail)
  go_wp2_with fail
  obtain ⟨F, hF⟩ : ∃ F, p / 8 = F := ⟨_, rfl⟩
  obtain ⟨T, hT⟩ : ∃ T, (p + n + 7) / 8 = T := ⟨_, rfl⟩
  rw [show (p : Int) / 8 = (F : Int) by omega, show ((p : Int) + (n : Int) + 8 - 1) / 8 = (T : Int) by omega]
  have hTs : T ≤ s.size := by omega
  have hFT : F ≤ T := by omega
  have hT5 : T ≤ F + 5 := by omega
  have HL := hid (show Left w g s p ((w.drewN nq0).drewN nq) from ⟨HR.out, (Only.drewN _ _ _).trans (Only.drewN _ _ _)⟩)
  generalize ((w.drewN nq0).drewN nq) = W at HL ⊢
  clear hc0 hc1 hf
  have hc0 := HL.out.rd.c0
  have hc1 := HL.out.rd.c1
  have hf := HL.out.rd.free 1
  go_loopw [5, 8] (fun v i wr => ∃ k m : Nat, F + k ≤ T ∧ i = .int .i64 ((F : Int) + (k : Int)) ∧ m = N / 256 ^ F % 256 ^ k ∧ v = .int .u64 (m : Int) ∧ wr = W) (fun v i _ => T - (intOf i).toNat)
  case atStart => exact ⟨0, 0, by omega, by go_num, by simp [Nat.mod_one], rfl, rfl⟩
  case round =>
    obtain ⟨k, m, hk, rfl, hm, rfl, rfl⟩ := hrel
    have HM := hid hm
    have hm40 : m < 1099511627776 := by
      have h1 : m < 256 ^ k := by rw [hm]; exact Nat.mod_lt _ (Nat.pow_pos (by decide))
      have h2 : 256 ^ k ≤ 256 ^ 5 := Nat.pow_le_pow_right (by decide) (by omega)
      omega
    have hmk : m < 256 ^ k := by rw [hm]; exact Nat.mod_lt _ (Nat.pow_pos (by decide))
    have HMK := hid hmk
    clear hm hmk
    by_cases hlt : F + k < T
    · go_wp2_with fail
      refine ⟨⟨k + 1, N / 256 ^ F % 256 ^ (k + 1), by omega, by go_num, rfl, val_int ?_, trivial⟩, by simp [intOf]; omega⟩
      have hx : N / 256 ^ (F + k) % 256 < 256 := Nat.mod_lt _ (by decide)
      rw [HN.out (F + k) (by omega), show IntKind.u64.wrap ((N / 256 ^ (F + k) % 256 : Nat) : Int) = ((N / 256 ^ (F + k) % 256 : Nat) : Int) by rw [IntKind.wrap_u64]; omega,
        or_add40 m _ k HMK.out (by omega) hx, low_succ, ← HM.out, Nat.div_div_eq_div_mul, ← Nat.pow_add]
    · go_wp2_with fail
      go_ret
      refine ⟨ret_int ?_, ?_⟩
      · have e1 : ((m : Int) / 2 ^ (p % 8)) = ((m / 2 ^ (p % 8) : Nat) : Int) := by simp
        have h1 : m / 2 ^ (p % 8) ≤ m := Nat.div_le_self _ _
        have h2 : 2 ^ n ≤ 2 ^ 32 := Nat.pow_le_pow_right (by decide) hn
        have h3 : m / 2 ^ (p % 8) % 2 ^ n < 2 ^ n := Nat.mod_lt _ (Nat.two_pow_pos _)
        have h4 : m / 2 ^ (p % 8) % 2 ^ n = N / 2 ^ p % 2 ^ n := by
          rw [HM.out, part_of _ _ _ _ (by omega), ← hF, from_of]
        rw [e1, mask64w _ _ hn (by omega), ← h4]
        omega
      · have hv : Value.int .i64 ((p : Int) + (n : Int)) = .int .i64 ((p + n : Nat) : Int) := val_int (by omega)
        rw [hv]
        exact ⟨HL.out.rd.go (p + n), HL.out.only.trans (Only.setCell g _ 1 _)⟩

/-- The number of a text. -/
def numS (s : ByteArray) : Nat := numL s.data.toList
theorem numS_byte (s : ByteArray) (i : Nat) (h : i < s.size) : (s[i]).toNat = numS s / 256 ^ i % 256 := by
  unfold numS
  rw [num_byte s.data.toList i (by simpa using h)]
  rfl

/-- A reader that isn't fine. -/
def Bk (w : World) (g : Nat) (s : ByteArray) (p : Nat) : Prop := w.heap[g]? = some (.cells #[.string s, .int .i64 (p : Int), .bool true] 71 (0, 0))

theorem rbit1 (g : Nat) (s : ByteArray) (p : Nat) (w : World) (h : Rd w g s p) (hs : s.size ≤ 1048576) (hp : p < 8 * s.size) :
    Calls Try.prog 23 #[.pointer (some ⟨g, 0, none⟩), .int .i64 1] w fun e w' => e = .returned (.int .u32 ((bitN (numS s) p : Nat) : Int)) ∧ Left w g s (p + 1) w' :=
  rbitsP g s p 1 (numS s) w h hs (by omega) (by omega) (fun i hi => numS_byte s i hi)

set_option maxRecDepth 100000 in
set_option maxHeartbeats 400000 in
theorem rbit0 (g : Nat) (s : ByteArray) (p : Nat) (w : World) (h : Rd w g s p) (hs : s.size ≤ 1048576) (hp : p = 8 * s.size) :
    Calls Try.prog 23 #[.pointer (some ⟨g, 0, none⟩), .int .i64 1] w fun e w' => e = .returned (.int .u32 0) ∧ Bk w' g s p ∧ Only g w w' := by
  have HR := hid h
  have HP := hid hp
  have e1 : IntKind.i64.wrap ((s.size : Int) * 8 - p) = 0 := by rw [IntKind.wrap_i64]; omega
  have hz : (s.size : Int) * 8 - (p : Int) = 0 := by omega
  have hleft : ∀ W, Rd W g s p → Calls Try.prog 48 #[.pointer (some ⟨g, 0, none⟩)] W fun e w' => ∃ n, e = .returned (.int .i64 0) ∧ w' = W.drewN n := fun W hW =>
    (rleft g s p W hW (by omega) hs).mono fun e w' ⟨n, h1, h2⟩ => ⟨n, by rw [h1, hz], h2⟩
  have HL := hid hleft
  clear h hp e1 hz hleft
  go_enter Try.func23, Try.ntmps23
  go_wp2_with fail
  refine (rfine g s p _ HR.out).mono ?_
  rintro e w' ⟨rfl, rfl⟩
  go_wp2_with fail
  refine (HL.out _ HR.out).mono ?_
  rintro e w' ⟨nq0, rfl, rfl⟩
  have hc2 := HR.out.c2
  have hf := HR.out.free 2
  go_wp2_with fail
  go_ret
  exact ⟨rfl, heap_setCell_same _ g 2 _ 71 _ HR.out, (Only.drewN g w nq0).trans (Only.setCell g _ 2 _)⟩

set_option maxHeartbeats 400000 in
theorem rfine0 (g : Nat) (s : ByteArray) (p : Nat) (w : World) (h : Bk w g s p) : Calls Try.prog 47 #[.pointer (some ⟨g, 0, none⟩)] w fun e w' => e = .returned (.bool false) ∧ w = w' := by
  have hc2 : w.cell? ⟨g, 2, none⟩ = some (.bool true) := by rw [cell_of_row w g 2 _ 71 (0, 0) h]; rfl
  go_enter Try.func47, Try.ntmps47
  go_wp2
  go_ret
  exact ⟨rfl, rfl⟩
end Huff
end Go.Proofs.Ytlfohihmkfphhaa
