/- WALKS: codes and kinds of any lengths, by the program and by the document; the document's example. -/
import Derived.Test.YthgjijjalfhhcaaHufR
namespace Go.Proofs.Ythgjijjalfhhcaa
set_option linter.unusedVariables false
open Go.RowKit
open Go.Proofs.Huf
namespace Huff

set_option maxRecDepth 100000 in
set_option maxHeartbeats 1000000 in
theorem refCodes_over (A : Option Addr) (b off len cap : Nat) (x : Nat → Int) (w : World) (hA : 0 < len → A = some ⟨b, off, none⟩) (hx : Ints w b off len x) (hf : Fine len x) (hk : kindOf (wT (natOf x) len) = 3) :
    Calls Try.prog 15 #[.slice A len cap] w fun e w' => e = .returned (.slice none 0 0) ∧ Below w.heap.size w w' := by
  have HX := hid hx
  have HA := hid hA
  have HF := hid hf
  have hk3 : (((kindOf (wT (natOf x) len) : Nat) : Int) == 3) = true := by simp; omega
  clear hx hA hf hk
  go_enter Try.func15, Try.ntmps15
  go_wp2_with fail
  refine (refKind_yes A b off len cap x _ HA.out HX.out HF.out).mono ?_
  rintro e w1 ⟨rfl, rfl⟩
  generalize kindOf (wT (natOf x) len) = kd at hk3 ⊢
  go_wp2_with fail
  go_ret
  exact ⟨rfl, Below.refl _ _⟩

set_option maxRecDepth 100000 in
set_option maxHeartbeats 1000000 in
theorem refCodes_bad (A : Option Addr) (b off len cap : Nat) (x : Nat → Int) (w : World) (hA : 0 < len → A = some ⟨b, off, none⟩) (hx : Ints w b off len x) (hm : len ≤ 9223372036854775807) (hf : ¬ Fine len x) :
    Calls Try.prog 15 #[.slice A len cap] w fun e w' => e = .returned (.slice none 0 0) ∧ Below w.heap.size w w' := by
  have HX := hid hx
  have HA := hid hA
  have HF := hid hf
  clear hx hA hf
  go_enter Try.func15, Try.ntmps15
  go_wp2_with fail
  refine (refKind_no A b off len cap x _ HA.out HX.out hm HF.out).mono ?_
  rintro e w1 ⟨rfl, rfl⟩
  go_wp2_with fail
  go_ret
  exact ⟨rfl, Below.refl _ _⟩

/-- Codes of the first M symbols, in new memory; where there are none, nothing is said of where. -/
def CodesP (g : Nat → Nat) (M : Nat) (w : World) (e : Ending) (w' : World) : Prop :=
  ∃ Q, e = .returned (.slice Q M M) ∧ (0 < M → ∃ C, w.heap.size ≤ C ∧ Q = some ⟨C, 0, none⟩ ∧ w'.heap[C]? = some (.cells (cdV g M M) 23 (0, 0))) ∧ Below w.heap.size w w'
theorem codesP_of {g : Nat → Nat} {N : Nat} {w : World} {e : Ending} {w' : World} (h : IsCodes g N w e w') : CodesP g N w e w' := by
  obtain ⟨C, h1, h2, h3, h4⟩ := h
  exact ⟨_, h2, fun _ => ⟨C, h1, rfl, h3⟩, h4⟩
theorem codesP_nil {g : Nat → Nat} {w : World} {e : Ending} {w' : World} (h : e = .returned (.slice none 0 0) ∧ Below w.heap.size w w') : CodesP g 0 w e w' :=
  ⟨_, h.1, fun h => absurd h (Nat.lt_irrefl _), h.2⟩

/-- What is known of a slice of lengths. -/
structure Lens (A : Option Addr) (b off len cap : Nat) (x : Nat → Int) (M K : Nat) : Prop where
  codes : ∀ w, Ints w b off len x → Calls Try.prog 14 #[.slice A len cap] w (CodesP (natOf x) M w)
  refs : ∀ w, Ints w b off len x → Calls Try.prog 15 #[.slice A len cap] w (CodesP (natOf x) M w)
  kind : ∀ w, Ints w b off len x → Calls Try.prog 16 #[.slice A len cap] w fun e w' => e = .returned (.int .i64 (K : Int)) ∧ Below w.heap.size w w'
  refKind : ∀ w, Ints w b off len x → Calls Try.prog 17 #[.slice A len cap] w fun e w' => e = .returned (.int .i64 (K : Int)) ∧ w = w'
  le : M ≤ 300
  fine : ∀ i, i < M → natOf x i ≤ 15

theorem lens_any (A : Option Addr) (b off len cap : Nat) (x : Nat → Int) (hA : 0 < len → A = some ⟨b, off, none⟩) (hm : len ≤ 9223372036854775807) : ∃ M K, Lens A b off len cap x M K := by
  by_cases hf : Fine len x
  · by_cases hk : kindOf (wT (natOf x) len) = 3
    · exact ⟨0, _, fun w h => (codes_over A b off len cap x w hA h hf hk).mono fun _ _ h => codesP_nil h, fun w h => (refCodes_over A b off len cap x w hA h hf hk).mono fun _ _ h => codesP_nil h,
        fun w h => kind_yes A b off len cap x w hA h hf, fun w h => refKind_yes A b off len cap x w hA h hf, by omega, fun i hi => by omega⟩
    · exact ⟨len, _, fun w h => (codes_yes A b off len cap x w hA h hf hk).mono fun _ _ h => codesP_of h, fun w h => (refCodes_yes A b off len cap x w hA h hf hk).mono fun _ _ h => codesP_of h,
        fun w h => kind_yes A b off len cap x w hA h hf, fun w h => refKind_yes A b off len cap x w hA h hf, hf.1, fun i hi => by have := hf.2 i hi; unfold natOf; omega⟩
  · exact ⟨0, 3, fun w h => (codes_bad A b off len cap x w hA h hm hf).mono fun _ _ h => codesP_nil h, fun w h => (refCodes_bad A b off len cap x w hA h hm hf).mono fun _ _ h => codesP_nil h,
        fun w h => kind_no A b off len cap x w hA h hm hf, fun w h => refKind_no A b off len cap x w hA h hm hf, by omega, fun i hi => by omega⟩

/-- The document's lengths. -/
def exX (i : Nat) : Int := if i = 0 then 2 else if i = 1 then 1 else 2
theorem exFine : Fine 3 exX := ⟨by decide, by decide⟩
theorem exKind : kindOf (wT (natOf exX) 3) = 1 := by decide
theorem exCodes : cdV (natOf exX) 3 3 = #[.int .u32 2, .int .u32 0, .int .u32 3] := rfl
theorem exInts {W : World} {G : Nat} (h : W.heap[G]? = some (.cells #[.int .i64 2, .int .i64 1, .int .i64 2] 3 (0, 0))) : Ints W G 0 3 exX := by
  refine ⟨fun _ => (Array.getElem?_eq_some_iff.1 h).1, fun i hi => ?_⟩
  rw [cell_of_row _ _ _ _ _ _ h]
  match i, hi with
  | 0, _ => rfl
  | 1, _ => rfl
  | 2, _ => rfl

set_option maxRecDepth 100000 in
set_option maxHeartbeats 1000000 in
theorem lives (w : World) : Calls Try.prog 13 #[] w fun e w' => e = .returned (.bool true) ∧ Below w.heap.size w w' := by
  go_enter Try.func13, Try.ntmps13
  go_wp2_with fail
  have HN := hid (heap_alloc_new w (.cells #[.int .i64 2, .int .i64 1, .int .i64 2] 3))
  have HB := hid (show Below w.heap.size w (w.alloc (.cells #[.int .i64 2, .int .i64 1, .int .i64 2] 3)) from (Below.refl _ _).alloc (Nat.le_refl _) _)
  generalize w.alloc (.cells #[.int .i64 2, .int .i64 1, .int .i64 2] 3) = W0 at HN HB ⊢
  generalize w.heap.size = G at HN ⊢
  refine (codes_yes _ G 0 3 3 exX _ (fun _ => rfl) (exInts HN.out) exFine (by rw [exKind]; decide)).mono ?_
  rintro e w1 ⟨C, hC, rfl, hrow, hb1⟩
  rw [exCodes] at hrow
  have H1 := hid (HB.out.trans (hb1.mono HB.out.size))
  have a0 : w1.cell? ⟨C, 0, none⟩ = some (.int .u32 2) := by rw [cell_of_row _ _ _ _ _ _ hrow]; rfl
  have a1 : w1.cell? ⟨C, 1, none⟩ = some (.int .u32 0) := by rw [cell_of_row _ _ _ _ _ _ hrow]; rfl
  have a2 : w1.cell? ⟨C, 2, none⟩ = some (.int .u32 3) := by rw [cell_of_row _ _ _ _ _ _ hrow]; rfl
  clear hb1 hrow hC HB HN
  go_wp2_with fail
  have HN2 := hid (heap_alloc_new w1 (.cells #[.int .i64 2, .int .i64 1, .int .i64 2] 3))
  have HB2 := hid (H1.out.alloc H1.out.size (.cells #[.int .i64 2, .int .i64 1, .int .i64 2] 3))
  generalize w1.alloc (.cells #[.int .i64 2, .int .i64 1, .int .i64 2] 3) = W1 at HN2 HB2 ⊢
  generalize w1.heap.size = G1 at HN2 ⊢
  refine (kind_yes _ G1 0 3 3 exX _ (fun _ => rfl) (exInts HN2.out) exFine).mono ?_
  rintro e w2 ⟨rfl, hb2⟩
  rw [exKind]
  have H2 := hid (HB2.out.trans (hb2.mono HB2.out.size))
  clear hb2 a0 a1 a2
  go_wp2_with fail
  go_ret
  exact ⟨rfl, H2.out⟩
end Huff
end Go.Proofs.Ythgjijjalfhhcaa
