/- Commit: a mark's sector is read as the mark. -/
import Derived.Test.YthgjijjalfhhcabDoorCoC
namespace Go.Proofs.YthgjijjalfhhcabDoor
set_option linter.unusedVariables false
open Go.RowKit
open Go.Proofs.Num
attribute [local go_sem ↓] Go.wp_at_zero Go.wp_at_succ
namespace Com
open Fld

set_option maxRecDepth 100000 in
set_option maxHeartbeats 400000 in
theorem text_yes (g : Nat) (s : ByteArray) (p n : Nat) (w : World) (h : Rd w g 69 s p false) (hp : p + n ≤ s.size) (hs : s.size ≤ 9223372036854775807) :
    Calls Tryd.prog 24 #[.pointer (some ⟨g, 0, none⟩), .int .i64 (n : Int)] w fun e w' => e = .returned (.string (s.extract p (p + n))) ∧ Fld.Left w g 69 s (p + n) false w' := by
  have HR := hid h
  have hc0 := h.c0
  have hc1 := h.c1
  have hf := h.free 1
  clear h
  go_enter Tryd.func24, Tryd.ntmps24
  go_wp2_with fail
  refine (fine g s p false _ HR.out).mono ?_
  rintro e w' ⟨rfl, rfl⟩
  go_wp2_with fail
  refine (left g s p false _ HR.out (by omega) hs).mono ?_
  rintro e w' ⟨nq, rfl, rfl⟩
  go_wp2_with fail
  go_quiet (fail)
  go_wp2_with fail
  go_ret
  exact ⟨rfl, by have := HR.out.go (p + n); exact this, ((Only.drewN g w _).trans (Only.setCell g _ 1 _)).trans (Only.drewN _ _ _)⟩


/-- The bytes 0 behind a seal. -/
def Z484 : List UInt8 := List.replicate 484 0
theorem zeros_484 : zeros 484 = ⟨Z484.toArray⟩ := rfl
theorem Z484_length : Z484.length = 484 := List.length_replicate
theorem ext_list (s : ByteArray) (a b : Nat) : (s.extract a b).data.toList = (s.data.toList.drop a).take (b - a) := by
  simp [List.extract]
theorem mark_list (t l : Nat) : (markB t l).data.toList = magicB.data.toList ++ (putL t 8 ++ (putL l 8 ++ (putL (sumN t l) 4 ++ Z484))) := by
  have h : (⟨(sealL t l).toArray⟩ : ByteArray).size = 28 := by
    show (sealL t l).toArray.size = 28
    rw [List.size_toArray, sealL_length]
  unfold markB padB
  rw [h, show needN 28 = 484 from rfl, zeros_484]
  simp [sealL, bodyL]
theorem mark_size (t l : Nat) : (markB t l).size = 512 := by
  have h := congrArg List.length (mark_list t l)
  simp [putL_length, Z484_length] at h
  exact h
theorem putL_getI (s : ByteArray) (n k : Nat) (r : List UInt8) (h : s.data.toList = putL n k ++ r) : getI s k = ((n % 256 ^ k : Nat) : Int) := by
  unfold getI
  rw [h, List.take_left' (putL_length n k), getL_put]
section
variable (t l : Nat)
theorem mark_magic : (markB t l).extract 0 (0 + 8) = magicB := by
  apply ByteArray.ext
  apply Array.ext'
  rw [ext_list, mark_list]
  rfl
theorem mark_from (p : Nat) (a b : List UInt8) (h : (markB t l).data.toList = a ++ b) (hp : a.length = p) : ((markB t l).extract p (markB t l).size).data.toList = b := by
  have hz := congrArg List.length h
  rw [List.length_append] at hz
  have h2 : (markB t l).data.toList.length = (markB t l).size := by simp
  rw [ext_list, h, List.drop_left' hp]
  exact List.take_of_length_le (by omega)
theorem mark_turn (h : t ≤ 1099511627776) : getI ((markB t l).extract 8 (markB t l).size) 8 = (t : Int) := by
  have e := mark_from t l 8 magicB.data.toList _ (mark_list t l) rfl
  rw [putL_getI _ t 8 _ e, Nat.mod_eq_of_lt (by omega)]
theorem mark_long (h : l ≤ 1099511627776) : getI ((markB t l).extract 16 (markB t l).size) 8 = (l : Int) := by
  have e := mark_from t l 16 (magicB.data.toList ++ putL t 8) _ (by rw [mark_list, List.append_assoc]) (by rw [List.length_append, putL_length]; rfl)
  rw [putL_getI _ l 8 _ e, Nat.mod_eq_of_lt (by omega)]
theorem mark_sum : getI ((markB t l).extract 24 (markB t l).size) 4 = (sumN t l : Int) := by
  have e := mark_from t l 24 (magicB.data.toList ++ putL t 8 ++ putL l 8) _ (by rw [mark_list, List.append_assoc, List.append_assoc]) (by rw [List.length_append, List.length_append, putL_length, putL_length]; rfl)
  have := (sum_eq t l).2
  rw [putL_getI _ (sumN t l) 4 _ e, Nat.mod_eq_of_lt (by omega)]
theorem mark_rest : (markB t l).extract 28 (28 + 484) = zeros 484 := by
  have e := mark_from t l 28 (magicB.data.toList ++ putL t 8 ++ putL l 8 ++ putL (sumN t l) 4) Z484 (by rw [mark_list]; simp) (by simp [putL_length])
  rw [mark_size] at e
  apply ByteArray.ext
  apply Array.ext'
  rw [e]
  rfl
end
theorem trim0 (w : World) : Calls Tryd.prog 27 #[.string (zeros 484), .string ⟨#[0]⟩] w fun e w' => e = .returned (.string ⟨#[]⟩) ∧ Below w.heap.size w w' := by
  have e : (⟨(Lib.trimB (zeros 484).data.toList 0).toArray⟩ : ByteArray) = ⟨#[]⟩ := by
    have : Lib.trimB (zeros 484).data.toList 0 = [] := by decide +kernel
    rw [this]
  refine (Tryd.strings_Trim_one (zeros 484) 0 (by decide) w (by rw [zeros_size]; omega)).mono ?_
  rw [e]
  rintro e w' ⟨rfl, rfl | rfl⟩
  · exact ⟨rfl, Below.refl _ _⟩
  · exact ⟨rfl, (Below.refl _ _).drew⟩
theorem neq44 (t l s : Int) (w : World) : (binOp BinOp.neq 43 (sealV t l s) (sealV t l s)).run Tryd.prog w = .ok (.bool false) w := by
  simp [go_sem]

/-- The reader, the result's cells. -/
structure R0 (w W : World) (s : ByteArray) (p : Nat) : Prop where
  res : W.heap[w.heap.size]? = some (.cells #[.int .i64 0, .int .i64 0] 24 (0, 0))
  rd : Rd W (w.heap.size + 1) 69 s p false
  below : Below w.heap.size w W
theorem R0.go {w W W' : World} {s : ByteArray} {p q : Nat} (h : R0 w W s p) (hl : Fld.Left W (w.heap.size + 1) 69 s q false W') : R0 w W' s q :=
  ⟨(hl.only.block _ (Array.getElem?_eq_some_iff.1 h.res).1 (by omega)).trans h.res, hl.rd, hl.only.below h.below (by omega)⟩
theorem r0_new (w : World) (s : ByteArray) : R0 w ((w.alloc (.cells #[.int .i64 0, .int .i64 0] 24)).alloc (.cells #[.string s, .int .i64 0, .bool false] 69)) s 0 :=
  ⟨(Below.heap_alloc _ _ _ (by simp)).trans (heap_alloc_new _ _), by have := heap_alloc_new (w.alloc (.cells #[.int .i64 0, .int .i64 0] 24)) (.cells #[.string s, .int .i64 0, .bool false] 69); rw [World.size_alloc] at this; exact this, ((Below.refl _ _).alloc (Nat.le_refl _) _).alloc (by simp) _⟩
/-- And the seal that is read. -/
structure R1 (w W : World) (s : ByteArray) (p X : Nat) (a b c d : Value) : Prop where
  r0 : R0 w W s p
  box : W.heap[X]? = some (.cells #[a, b, c, d] 43 (0, 0))
  hX : w.heap.size + 1 < X
section
variable {w W W' : World} {s : ByteArray} {p q X : Nat} {a b c d : Value}
theorem R1.go (h : R1 w W s p X a b c d) (hl : Fld.Left W (w.heap.size + 1) 69 s q false W') : R1 w W' s q X a b c d :=
  ⟨h.r0.go hl, (hl.only.block _ (Array.getElem?_eq_some_iff.1 h.box).1 (by have := h.hX; omega)).trans h.box, h.hX⟩
theorem R1.step (h : R1 w W s p X a b c d) (hb : Below W.heap.size W W') : R1 w W' s p X a b c d :=
  ⟨⟨row_step h.r0.res hb, row_step h.r0.rd hb, h.r0.below.trans (hb.mono h.r0.below.size)⟩, row_step h.box hb, h.hX⟩
theorem R1.drewN (h : R1 w W s p X a b c d) (n : Nat) : R1 w (W.drewN n) s p X a b c d := h.step ⟨rfl, rfl, rfl, Nat.le_refl _, fun _ _ => rfl⟩
theorem R1.drew (h : R1 w W s p X a b c d) : R1 w W.drew s p X a b c d := h.step (Below.refl _ _).drew
theorem r1_new (h : R0 w W s p) (a b c d : Value) : R1 w (W.alloc (.cells #[a, b, c, d] 43)) s p W.heap.size a b c d :=
  ⟨⟨row_step h.res ((Below.refl _ _).alloc (Nat.le_refl _) _), row_step h.rd ((Below.refl _ _).alloc (Nat.le_refl _) _), h.below.alloc h.below.size _⟩, heap_alloc_new _ _, (Array.getElem?_eq_some_iff.1 h.rd).1⟩
theorem R1.mark (h : R1 w W s p X a b c d) (b' c' : Value) : R1 w ((W.setCell ⟨X, 1, none⟩ b').setCell ⟨X, 2, none⟩ c') s p X a b' c' d := by
  have hX := h.hX
  have o : ∀ (V : World) (k i : Nat) (v : Value), k ≠ X → (V.setCell ⟨X, i, none⟩ v).heap[k]? = V.heap[k]? := fun V k i v hn => heap_setCell_other V ⟨X, i, none⟩ k v hn
  refine ⟨⟨?_, ?_, (h.r0.below.setCell (p := ⟨X, 1, none⟩) (by show w.heap.size ≤ X; omega) _).setCell (p := ⟨X, 2, none⟩) (by show w.heap.size ≤ X; omega) _⟩, ?_, hX⟩
  · rw [o _ _ _ _ (by omega), o _ _ _ _ (by omega)]; exact h.r0.res
  · unfold Rd; rw [o _ _ _ _ (by omega), o _ _ _ _ (by omega)]; exact h.r0.rd
  · exact heap_setCell_same _ X 2 _ _ c' (heap_setCell_same W X 1 _ _ b' h.box)
theorem R1.sum (h : R1 w W s p X a b c d) (d' : Value) : R1 w (W.setCell ⟨X, 3, none⟩ d') s p X a b c d' := by
  have hX := h.hX
  have o : ∀ (V : World) (k i : Nat) (v : Value), k ≠ X → (V.setCell ⟨X, i, none⟩ v).heap[k]? = V.heap[k]? := fun V k i v hn => heap_setCell_other V ⟨X, i, none⟩ k v hn
  refine ⟨⟨?_, ?_, h.r0.below.setCell (p := ⟨X, 3, none⟩) (by show w.heap.size ≤ X; omega) _⟩, heap_setCell_same W X 3 _ _ d' h.box, hX⟩
  · rw [o _ _ _ _ (by omega)]; exact h.r0.res
  · unfold Rd; rw [o _ _ _ _ (by omega)]; exact h.r0.rd
end
end Com
end Go.Proofs.YthgjijjalfhhcabDoor
