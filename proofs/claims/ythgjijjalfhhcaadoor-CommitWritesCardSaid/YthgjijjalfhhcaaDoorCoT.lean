/- CommitWrites: the law's walk. -/
import Derived.Test.YthgjijjalfhhcaaDoorCoS
import Derived.Deep.DeepCutAuto
namespace Go.Proofs.YthgjijjalfhhcaaDoor
set_option linter.unusedVariables false
open Go.RowKit
open Go.Proofs.Num
attribute [local go_sem ↓] Go.wp_at_zero Go.wp_at_succ
namespace Com
open Fld

/-- What a mark is told of. -/
theorem told (T L : Int) : ∃ (b : Bool) (x : ByteArray), (∀ W, Calls Tryd.prog 6 #[markV T L] W fun e w' => e = .returned (.bool b) ∧ Below W.heap.size W w') ∧ (∀ W, Calls Tryd.prog 7 #[markV T L] W fun e w' => e = .returned (.bool b) ∧ Below W.heap.size W w') ∧
    (∀ W, Calls Tryd.prog 8 #[markV T L] W fun e w' => e = .returned (.string x) ∧ Below W.heap.size W w') ∧ (∀ W, Calls Tryd.prog 9 #[markV T L] W fun e w' => e = .returned (.string x) ∧ Below W.heap.size W w') ∧ (x = ⟨#[]⟩ ∨ ∃ t l, Ok t l ∧ x = markB t l) := by
  rcases no_or T L with h | ⟨t, l, hok, rfl, rfl⟩
  · exact ⟨false, _, fun W => right_no T L h W, fun W => refRight_no T L h W, fun W => write_no T L h W, fun W => refWrite_no T L h W, .inl rfl⟩
  · exact ⟨true, _, fun W => right t l hok W, fun W => refRight t l hok W, fun W => write t l hok W, fun W => refWrite t l hok W, .inr ⟨t, l, hok, rfl⟩⟩
/-- What a text is read as. -/
theorem reads (s : ByteArray) (hs : s.size ≤ 1000) : (∃ t l, Ok t l ∧ s = markB t l ∧ ∀ W, Calls Tryd.prog 5 #[.string s] W fun e w' => e = .returned (.tuple #[markV t l, .bool true]) ∧ Below W.heap.size W w') ∨
    ((∀ t l, Ok t l → ¬ s = markB t l) ∧ ∀ W, Calls Tryd.prog 5 #[.string s] W fun e w' => e = .returned (.tuple #[markV 0 0, .bool false]) ∧ Below W.heap.size W w') := by
  by_cases h : ∃ t l, Ok t l ∧ s = markB t l
  · obtain ⟨t, l, hok, rfl⟩ := h
    exact .inl ⟨t, l, hok, rfl, fun W => readMark t l hok W⟩
  · have hno : ∀ t l, Ok t l → ¬ s = markB t l := fun t l h1 h2 => h ⟨t, l, h1, h2⟩
    refine .inr ⟨hno, fun W => ?_⟩
    by_cases hz : s.size = 512
    · exact readNo s W hz hno
    · exact readShort s W hz hs

/-- Three boxes: the mark that came in, the one that was read, again as the document's. -/
structure Lw (w W : World) (G H : Nat) (T L a b : Int) : Prop where
  one : W.heap[w.heap.size]? = some (.cells #[.int .i64 T, .int .i64 L] 23 (0, 0))
  two : W.heap[G]? = some (.cells #[.int .i64 a, .int .i64 b] 24 (0, 0))
  three : W.heap[H]? = some (.cells #[.int .i64 a, .int .i64 b] 23 (0, 0))
  below : Below w.heap.size w W
theorem Lw.step {w W W' : World} {G H : Nat} {T L a b : Int} (h : Lw w W G H T L a b) (hb : Below W.heap.size W W') : Lw w W' G H T L a b :=
  ⟨row_step h.one hb, row_step h.two hb, row_step h.three hb, h.below.trans (hb.mono h.below.size)⟩
theorem Lw.drew {w W : World} {G H : Nat} {T L a b : Int} (h : Lw w W G H T L a b) : Lw w W.drew G H T L a b := h.step (Below.refl _ _).drew

theorem text_eq {a b : ByteArray} (h : a.toList = b.toList) : a = b := by
  rw [ByteArray.toList_eq, ByteArray.toList_eq] at h
  exact ByteArray.ext (Array.ext' h)

set_option maxRecDepth 100000 in
set_option maxHeartbeats 4000000 in
theorem walkWrites (T L : Int) (s : ByteArray) (w : World) (hs : s.size ≤ 9223372036854775807) :
    Calls Tryd.prog 3 #[markV T L, .string s] w fun e w' => e = .returned (.bool true) ∧ Below w.heap.size w w' := by
  have HR0 := hid (heap_alloc_new w (.cells #[.int .i64 T, .int .i64 L] 23))
  have HB0 := hid ((Below.refl _ w).alloc (Nat.le_refl _) (.cells #[.int .i64 T, .int .i64 L] 23))
  obtain ⟨bm, x, C6, C7, C8, C9, hx⟩ := told T L
  have H6 := hid C6
  have H7 := hid C7
  have H8 := hid C8
  have H9 := hid C9
  have HX := hid hx
  clear C6 C7 C8 C9 hx
  go_enter Tryd.func3, Tryd.ntmps3
  go_upto_region 1 with fail
  generalize w.alloc (.cells #[.int .i64 T, .int .i64 L] 23) = W0 at HR0 HB0 ⊢
  go_cut [1] (fun v wx => ∃ t : ByteArray, t.size ≤ 600 ∧ v = .string t ∧ wx = W0)
  case first =>
    go_wp2_with fail
    go_meet
    exact ⟨_, by simp; omega, rfl, rfl⟩
  case rest =>
    obtain ⟨t, ht, rfl, hw⟩ := hcut
    have hw' := hw.symm
    subst hw'
    clear hw hs
    -- the walk up to the comparisons, whatever was read
    have key : ∃ (a b : Int) (ok : Bool), (∀ W, Calls Tryd.prog 5 #[.string t] W fun e w' => e = .returned (.tuple #[markV a b, .bool ok]) ∧ Below W.heap.size W w') ∧
        ((ok = true ∧ (∀ W, Calls Tryd.prog 7 #[markV a b] W fun e w' => e = .returned (.bool true) ∧ Below W.heap.size W w') ∧ (∀ W, Calls Tryd.prog 9 #[markV a b] W fun e w' => e = .returned (.string t) ∧ Below W.heap.size W w')) ∨
         (ok = false ∧ a = 0 ∧ b = 0 ∧ ∀ t' l', Ok t' l' → ¬ t = markB t' l')) := by
      rcases reads t (by omega) with ⟨t0, l0, hok, rfl, h⟩ | ⟨hno, h⟩
      · exact ⟨t0, l0, true, h, .inl ⟨rfl, fun W => refRight t0 l0 hok W, fun W => refWrite t0 l0 hok W⟩⟩
      · exact ⟨0, 0, false, h, .inr ⟨rfl, rfl, rfl, hno⟩⟩
    obtain ⟨a, b, ok, C5, hcase⟩ := key
    have H5 := hid C5
    have HC := hid hcase
    clear C5 hcase ht
    go_wp2_with fail
    refine (H5.out _).mono ?_
    rintro e w1 ⟨rfl, b1⟩
    have R1 := hid (row_step HR0.out b1)
    have B1 := hid (HB0.out.trans (b1.mono HB0.out.size))
    clear b1 HR0 HB0
    go_upto_region 3 with fail
    have A1 := hid (heap_alloc_new w1 (.cells #[.int .i64 a, .int .i64 b] 24))
    have A2 := hid (row_step R1.out ((Below.refl _ _).alloc (Nat.le_refl _) (.cells #[.int .i64 a, .int .i64 b] 24)))
    have A3 := hid (B1.out.alloc B1.out.size (.cells #[.int .i64 a, .int .i64 b] 24))
    clear R1 B1
    generalize w1.alloc (.cells #[.int .i64 a, .int .i64 b] 24) = W1 at A1 A2 A3 ⊢
    generalize w1.heap.size = G at A1 ⊢
    obtain ⟨c0, c1⟩ := two_cells A1.out
    go_upto_region 4 with fail
    have K0 := hid (⟨row_step A2.out ((Below.refl _ _).alloc (Nat.le_refl _) _), row_step A1.out ((Below.refl _ _).alloc (Nat.le_refl _) _), heap_alloc_new W1 (.cells #[.int .i64 a, .int .i64 b] 23), A3.out.alloc A3.out.size _⟩ : Lw w (W1.alloc (.cells #[.int .i64 a, .int .i64 b] 23)) G W1.heap.size T L a b)
    clear A1 A2 A3 c0 c1
    generalize W1.alloc (.cells #[.int .i64 a, .int .i64 b] 23) = W2 at K0 ⊢
    generalize W1.heap.size = H at K0 ⊢
    have c0 := hid (two_cells K0.out.one)
    go_region_held3 (fun W' => W'.cell? ⟨w.heap.size, 0, none⟩ = some (.int .i64 T) ∧ W'.cell? ⟨w.heap.size, 1, none⟩ = some (.int .i64 L))
      (first | exact c0.out | exact two_cells K4.out.one | exact two_cells K3.out.one | exact two_cells K2.out.one | exact two_cells K1.out.one | go_keep)
      (first
        | (have tok := K3.out; clear tok; go_at_call 9; refine (H9.out _).mono ?_; rintro e v4 ⟨rfl, h⟩; have K4 := hid (K3.out.step h); clear h)
        | (have tok := K2.out; clear tok; go_at_call 8; refine (H8.out _).mono ?_; rintro e v3 ⟨rfl, h⟩; have K3 := hid (K2.out.step h); clear h)
        | (have tok := K1.out; clear tok; go_at_call 7; refine (H7.out _).mono ?_; rintro e v2 ⟨rfl, h⟩; have K2 := hid (K1.out.step h); clear h)
        | (go_at_call 6; refine (H6.out _).mono ?_; rintro e v1 ⟨rfl, h⟩; have K1 := hid (by first | exact K0.out.drew.step h | exact K0.out.step h); clear h))
    obtain ⟨m0, m1⟩ := two_cells K4.out.one
    obtain ⟨a0, a1⟩ := two_cells K4.out.two
    obtain ⟨b0, b1⟩ := two_cells K4.out.three
    rcases HC.out with ⟨rfl, C7, C9⟩ | ⟨rfl, rfl, rfl, hno⟩
    · have D7 := hid C7
      have D9 := hid C9
      clear C7 C9
      go_wp2_with fail
      refine (D7.out _).mono ?_
      rintro e w5 ⟨rfl, h5⟩
      have K5 := hid (K4.out.step h5)
      clear h5 m0 m1 a0 a1 b0 b1
      obtain ⟨b0, b1⟩ := two_cells K5.out.three
      go_wp2_with fail
      refine (D9.out _).mono ?_
      rintro e w6 ⟨rfl, h6⟩
      have K6 := hid (K5.out.step h6)
      clear h6 b0 b1
      go_wp2_with fail
      refine (lives _).mono ?_
      rintro e w7 ⟨rfl, h7⟩
      have K7 := hid (K6.out.step h7)
      clear h7
      go_wp2_with fail
      go_ret
      exact ⟨rfl, K7.out.below⟩
    · by_cases hxt : x = t
      · have hx0 : x = ⟨#[]⟩ := by
          rcases HX.out with h | ⟨t', l', h1, h2⟩
          · exact h
          · exact absurd (hxt.symm.trans h2) (hno t' l' h1)
        subst hxt
        subst hx0
        clear hno
        go_wp2_with fail
        refine (H9.out _).mono ?_
        rintro e w5 ⟨rfl, h5⟩
        have K5 := hid (K4.out.step h5)
        clear h5 m0 m1 a0 a1 b0 b1
        obtain ⟨a0, a1⟩ := two_cells K5.out.two
        go_wp2_with fail
        refine (lives _).mono ?_
        rintro e w7 ⟨rfl, h7⟩
        have K7 := hid (K5.out.step h7)
        clear h7
        go_wp2_with fail
        go_ret
        exact ⟨rfl, K7.out.below⟩
      · have hne : ¬ x.toList = t.toList := fun h => hxt (text_eq h)
        clear hno hxt
        go_wp2_with fail
        refine (H9.out _).mono ?_
        rintro e w5 ⟨rfl, h5⟩
        have K5 := hid (K4.out.step h5)
        clear h5 m0 m1 a0 a1 b0 b1
        go_wp2_with fail
        refine (lives _).mono ?_
        rintro e w7 ⟨rfl, h7⟩
        have K7 := hid (K5.out.step h7)
        clear h7
        go_wp2_with fail
        go_ret
        exact ⟨rfl, K7.out.below⟩
end Com
end Go.Proofs.YthgjijjalfhhcaaDoor
