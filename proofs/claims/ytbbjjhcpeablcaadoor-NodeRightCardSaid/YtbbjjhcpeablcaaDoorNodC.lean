/- NodeRight: nodes that are the same; the document's example. -/
import Derived.Test.YtbbjjhcpeablcaaDoorNodA
import Derived.Handy
namespace Go.Proofs.YtbbjjhcpeablcaaDoor
set_option linter.unusedVariables false
open Go.RowKit
attribute [local go_sem ↓] Go.wp_at_zero Go.wp_at_succ
namespace Nod

/-- Are two nodes one? -/
def wholeB (k m t : Int) (d : ByteArray) (k' m' t' : Int) (d' : ByteArray) : Bool := decide (k = k' ∧ m = m' ∧ t = t' ∧ d.toList = d'.toList)
/-- Are two prints one? -/
def sameB (k m t n s k' m' t' n' s' : Int) : Bool := decide (k = k' ∧ m = m' ∧ t = t' ∧ n = n' ∧ s = s')

set_option maxRecDepth 100000 in
set_option maxHeartbeats 2000000 in
theorem whole (k m t k' m' t' : Int) (d d' : ByteArray) (w : World) :
    Calls Tryd.prog 10 #[nodeV k m t d, nodeV k' m' t' d'] w fun e w' => e = .returned (.bool (wholeB k m t d k' m' t' d')) ∧ Below w.heap.size w w' := by
  go_enter Tryd.func10, Tryd.ntmps10
  go_wp2_with fail
  all_goals
    go_ret
    exact ⟨ret_bool (by unfold wholeB; simp [*]), ((Below.refl _ _).alloc (Nat.le_refl _) _).alloc (by simp) _⟩

set_option maxRecDepth 100000 in
set_option maxHeartbeats 2000000 in
theorem same (k m t k' m' t' : Int) (d d' : ByteArray) (w : World) (hd : d.size ≤ 2000) (hd' : d'.size ≤ 2000) :
    Calls Tryd.prog 9 #[nodeV k m t d, nodeV k' m' t' d'] w fun e w' => e = .returned (.bool (sameB k m t (d.size : Int) (sumB k d) k' m' t' (d'.size : Int) (sumB k' d'))) ∧ Below w.heap.size w w' := by
  have H1 := hid (fun W => print k m t d W hd)
  have H2 := hid (fun W => print k' m' t' d' W hd')
  have HT := hid (tw_new w (.int .i64 k) (.int .i64 m) (.int .u32 t) (.string d) (.int .i64 k') (.int .i64 m') (.int .u32 t') (.string d'))
  clear hd hd'
  generalize (d.size : Int) = n at H1 ⊢
  generalize sumB k d = s at H1 ⊢
  generalize (d'.size : Int) = n' at H2 ⊢
  generalize sumB k' d' = s' at H2 ⊢
  go_enter Tryd.func9, Tryd.ntmps9
  go_upto_region 1 with fail
  generalize (w.alloc (.cells #[.int .i64 k, .int .i64 m, .int .u32 t, .string d] 24)).alloc (.cells #[.int .i64 k', .int .i64 m', .int .u32 t', .string d'] 24) = W at HT ⊢
  have a0 := hid (four_cells HT.out.one)
  have b0 := hid (four_cells HT.out.two)
  have he := fun W => eq29 k m t k' m' t' n n' s s' W
  go_region_held3 (fun W' => (W'.cell? ⟨w.heap.size, 0, none⟩ = some (.int .i64 k) ∧ W'.cell? ⟨w.heap.size, 1, none⟩ = some (.int .i64 m) ∧ W'.cell? ⟨w.heap.size, 2, none⟩ = some (.int .u32 t) ∧ W'.cell? ⟨w.heap.size, 3, none⟩ = some (.string d)) ∧
      (W'.cell? ⟨w.heap.size + 1, 0, none⟩ = some (.int .i64 k') ∧ W'.cell? ⟨w.heap.size + 1, 1, none⟩ = some (.int .i64 m') ∧ W'.cell? ⟨w.heap.size + 1, 2, none⟩ = some (.int .u32 t') ∧ W'.cell? ⟨w.heap.size + 1, 3, none⟩ = some (.string d')))
    (first | exact ⟨a0.out, b0.out⟩ | exact ⟨four_cells K2.out.one, four_cells K2.out.two⟩ | exact ⟨four_cells K1.out.one, four_cells K1.out.two⟩ | go_keep)
    (first
      | (have tok := K1.out; clear tok; go_at_call 7; refine (H2.out _).mono ?_; rintro e w2 ⟨rfl, h⟩; have K2 := hid (K1.out.step h); clear h)
      | (go_at_call 7; refine (H1.out _).mono ?_; rintro e w1 ⟨rfl, h⟩; have K1 := hid (HT.out.drew.step h); clear h))
  clear he
  go_wp2_with fail
  go_ret
  exact ⟨ret_bool (by unfold sameB; simp), K2.out.below⟩

set_option maxRecDepth 100000 in
theorem mode420 (w : World) : Calls Tryd.prog 12 #[.int .i64 420] w fun e w' => e = .returned (.bool true) ∧ w = w' := by
  go_enter Tryd.func12, Tryd.ntmps12
  go_wp2_with fail
  go_ret
  exact ⟨rfl, rfl⟩

theorem none_ : (Ending.returned (.string ⟨#[110, 111, 110, 101]⟩) : Ending) = .returned (.string ⟨#[110, 111, 110, 101]⟩) := rfl
set_option maxRecDepth 100000 in
set_option maxHeartbeats 2000000 in
theorem fine0 (w : World) : Calls Tryd.prog 29 #[printV 0 0 0 0 0] w fun e w' => e = .returned (.bool true) ∧ Below w.heap.size w w' := by
  go_enter Tryd.func29, Tryd.ntmps29
  go_wp2_with fail
  go_ret
  exact ⟨rfl, (Below.refl _ _).alloc (Nat.le_refl _) _⟩
set_option maxRecDepth 100000 in
set_option maxHeartbeats 2000000 in
theorem text0 (w : World) : Calls Tryd.prog 18 #[printV 0 0 0 0 0] w fun e w' => e = .returned (.string ⟨#[110, 111, 110, 101]⟩) ∧ Below w.heap.size w w' := by
  have HR := hid (heap_alloc_new w (.cells #[.int .i64 0, .int .i64 0, .int .u32 0, .int .i64 0, .int .u32 0] 29))
  have HB := hid ((Below.refl _ w).alloc (Nat.le_refl _) (.cells #[.int .i64 0, .int .i64 0, .int .u32 0, .int .i64 0, .int .u32 0] 29))
  go_enter Tryd.func18, Tryd.ntmps18
  go_upto_region 1 with fail
  generalize w.alloc (.cells #[.int .i64 0, .int .i64 0, .int .u32 0, .int .i64 0, .int .u32 0] 29) = W at HR HB ⊢
  obtain ⟨c0, c1, c2, c3, c4⟩ := five_cells HR.out
  go_wp2_with fail
  refine (fine0 _).mono ?_
  rintro e w1 ⟨rfl, hb⟩
  have HR1 := hid (row_step HR.out hb)
  have HB1 := hid (HB.out.trans (hb.mono HB.out.size))
  clear c0 c1 c2 c3 c4 hb
  obtain ⟨c0, c1, c2, c3, c4⟩ := five_cells HR1.out
  go_wp2_with fail
  go_ret
  exact ⟨rfl, HB1.out⟩

/-- The sign of a place. -/
def signN (i : Nat) (s : Int) : Int := if 420 / 2 ^ (8 - i) % 2 = 0 then 45 else s

set_option maxRecDepth 100000 in
set_option maxHeartbeats 2000000 in
theorem put1 (G i : Nat) (s : Int) (cs : Array Value) (w : World) (hi : i < 9) (hn : cs.size = 9) (h0 : w.cell? ⟨G, 0, none⟩ = some (.int .i64 420)) (hrow : w.heap[G + 1]? = some (.cells cs 52 (0, 0))) :
    Calls Tryd.prog 28 #[.int .i64 (i : Int), .int .u8 s, .pointer (some ⟨G, 0, none⟩), .pointer (some ⟨G + 1, 0, none⟩)] w fun e w' => e = .returned (.tuple #[]) ∧ w' = w.setCell ⟨G + 1, i, none⟩ (.int .u8 (signN i s)) := by
  have hf := frozen_of_row w (G + 1) i _ _ hrow
  have hc : w.cell? ⟨G + 1, i, none⟩ = some cs[i] := by rw [cell_of_row _ _ _ _ _ _ hrow]; exact Array.getElem?_eq_getElem (by omega)
  have q0 : (bits .and .i64 1 1 == 0) = false := by decide +kernel
  have q1 : (bits .and .i64 3 1 == 0) = false := by decide +kernel
  have q2 : (bits .and .i64 6 1 == 0) = true := by decide +kernel
  have q3 : (bits .and .i64 13 1 == 0) = false := by decide +kernel
  have q4 : (bits .and .i64 26 1 == 0) = true := by decide +kernel
  have q5 : (bits .and .i64 52 1 == 0) = true := by decide +kernel
  have q6 : (bits .and .i64 105 1 == 0) = false := by decide +kernel
  have q7 : (bits .and .i64 210 1 == 0) = true := by decide +kernel
  have q8 : (bits .and .i64 420 1 == 0) = true := by decide +kernel
  clear hrow
  go_enter Tryd.func28, Tryd.ntmps28
  rcases (show i = 0 ∨ i = 1 ∨ i = 2 ∨ i = 3 ∨ i = 4 ∨ i = 5 ∨ i = 6 ∨ i = 7 ∨ i = 8 by omega) with rfl | rfl | rfl | rfl | rfl | rfl | rfl | rfl | rfl
  · have hs : signN 0 s = s := rfl
    go_wp2_with fail
    go_returns
    exact ⟨rfl, by rw [hs]⟩
  · have hs : signN 1 s = s := rfl
    go_wp2_with fail
    go_returns
    exact ⟨rfl, by rw [hs]⟩
  · have hs : signN 2 s = 45 := rfl
    go_wp2_with fail
    go_returns
    exact ⟨rfl, by rw [hs]⟩
  · have hs : signN 3 s = s := rfl
    go_wp2_with fail
    go_returns
    exact ⟨rfl, by rw [hs]⟩
  · have hs : signN 4 s = 45 := rfl
    go_wp2_with fail
    go_returns
    exact ⟨rfl, by rw [hs]⟩
  · have hs : signN 5 s = 45 := rfl
    go_wp2_with fail
    go_returns
    exact ⟨rfl, by rw [hs]⟩
  · have hs : signN 6 s = s := rfl
    go_wp2_with fail
    go_returns
    exact ⟨rfl, by rw [hs]⟩
  · have hs : signN 7 s = 45 := rfl
    go_wp2_with fail
    go_returns
    exact ⟨rfl, by rw [hs]⟩
  · have hs : signN 8 s = 45 := rfl
    go_wp2_with fail
    go_returns
    exact ⟨rfl, by rw [hs]⟩

/-- The mode's box, and the signs. -/
structure Sg (w W : World) (cs : Array Value) : Prop where
  box : W.heap[w.heap.size]? = some (.cells #[.int .i64 420] 3 (0, 0))
  row : W.heap[w.heap.size + 1]? = some (.cells cs 52 (0, 0))
  below : Below w.heap.size w W
theorem put2 (w W : World) (i : Nat) (s : Int) (cs : Array Value) (h : Sg w W cs) (hi : i < 9) (hn : cs.size = 9) :
    Calls Tryd.prog 28 #[.int .i64 (i : Int), .int .u8 s, .pointer (some ⟨w.heap.size, 0, none⟩), .pointer (some ⟨w.heap.size + 1, 0, none⟩)] W fun e W' => e = .returned (.tuple #[]) ∧ Sg w W' (cs.setIfInBounds i (.int .u8 (signN i s))) := by
  refine (put1 w.heap.size i s cs W hi hn (by rw [cell_of_row _ _ _ _ _ _ h.box]; rfl) h.row).mono ?_
  rintro e W' ⟨rfl, rfl⟩
  exact ⟨rfl, (heap_setCell_other W ⟨w.heap.size + 1, i, none⟩ _ _ (by show _ ≠ w.heap.size + 1; omega)).trans h.box, heap_setCell_same W (w.heap.size + 1) i _ _ _ h.row, h.below.setCell (p := ⟨w.heap.size + 1, i, none⟩) (by show w.heap.size ≤ w.heap.size + 1; omega) _⟩

/-- The signs behind so many rounds. -/
def signs : Nat → Array Value
  | 0 => #[.int .u8 0, .int .u8 0, .int .u8 0, .int .u8 0, .int .u8 0, .int .u8 0, .int .u8 0, .int .u8 0, .int .u8 0]
  | 1 => #[.int .u8 114, .int .u8 119, .int .u8 45, .int .u8 0, .int .u8 0, .int .u8 0, .int .u8 0, .int .u8 0, .int .u8 0]
  | 2 => #[.int .u8 114, .int .u8 119, .int .u8 45, .int .u8 114, .int .u8 45, .int .u8 45, .int .u8 0, .int .u8 0, .int .u8 0]
  | _ => #[.int .u8 114, .int .u8 119, .int .u8 45, .int .u8 114, .int .u8 45, .int .u8 45, .int .u8 114, .int .u8 45, .int .u8 45]
theorem und54 : Tryd.prog.underlying 54 = some (.slice 5) := by kernel_rfl
theorem sg_new (w : World) : Sg w ((w.alloc (.cells #[.int .i64 420] 3)).alloc (.cells #[.int .u8 0, .int .u8 0, .int .u8 0, .int .u8 0, .int .u8 0, .int .u8 0, .int .u8 0, .int .u8 0, .int .u8 0] 52)) (signs 0) :=
  ⟨(Below.heap_alloc _ _ _ (by simp)).trans (heap_alloc_new _ _), by have := heap_alloc_new (w.alloc (.cells #[.int .i64 420] 3)) (.cells (signs 0) 52); rw [World.size_alloc] at this; exact this, ((Below.refl _ _).alloc (Nat.le_refl _) _).alloc (by simp) _⟩
theorem conv_signs {w W : World} (h : Sg w W (signs 3)) : (convert 54 9 (.slice (some ⟨w.heap.size + 1, 0, none⟩) 9 9)).run Tryd.prog W = .ok (.string ⟨#[114, 119, 45, 114, 45, 45, 114, 45, 45]⟩) W := by
  refine run_convert_bytes_back (P := Tryd.prog) W 54 9 5 ⟨w.heap.size + 1, 0, none⟩ 9 [114, 119, 45, 114, 45, 45, 114, 45, 45] und54 Tryd.underlying5 Tryd.underlying9 ?_
  intro j hj
  have hadd : (⟨w.heap.size + 1, 0, none⟩ : Addr).add j = ⟨w.heap.size + 1, j, none⟩ := by unfold Addr.add; split <;> simp_all
  rw [hadd, cell_of_row _ _ _ _ _ _ h.row]
  have hj' : j < 9 := hj
  rcases (show j = 0 ∨ j = 1 ∨ j = 2 ∨ j = 3 ∨ j = 4 ∨ j = 5 ∨ j = 6 ∨ j = 7 ∨ j = 8 by omega) with rfl | rfl | rfl | rfl | rfl | rfl | rfl | rfl | rfl <;> rfl

set_option maxRecDepth 100000 in
set_option maxHeartbeats 2000000 in
theorem perm420 (w : World) : Calls Tryd.prog 17 #[.int .i64 420] w fun e w' => e = .returned (.string ⟨#[114, 119, 45, 114, 45, 45, 114, 45, 45]⟩) ∧ Below w.heap.size w w' := by
  have HN := hid (sg_new w)
  go_enter Tryd.func17, Tryd.ntmps17
  go_wp2_with fail
  refine (mode420 _).mono ?_
  rintro e w1 ⟨rfl, rfl⟩
  go_wp2_with fail
  generalize (w.alloc (.cells #[.int .i64 420] 3)).alloc (.cells #[.int .u8 0, .int .u8 0, .int .u8 0, .int .u8 0, .int .u8 0, .int .u8 0, .int .u8 0, .int .u8 0, .int .u8 0] 52) = W0 at HN ⊢
  go_loopw [5] (fun i wr => ∃ j : Nat, j ≤ 3 ∧ i = .int .i64 (3 * (j : Int)) ∧ Sg w wr (signs j)) (fun i _ => 9 - (intOf i).toNat)
  case atStart => exact ⟨0, by omega, rfl, HN.out⟩
  case round =>
    obtain ⟨j, hj, rfl, hs⟩ := hrel
    have HS := hid hs
    clear hs HN
    rcases (show j = 0 ∨ j = 1 ∨ j = 2 ∨ j = 3 by omega) with rfl | rfl | rfl | rfl
    · go_wp2_with fail
      refine (put2 w _ 0 114 _ HS.out (by omega) rfl).mono ?_
      rintro e wq ⟨rfl, h⟩
      have HS := hid (show Sg w wq #[.int .u8 114, .int .u8 0, .int .u8 0, .int .u8 0, .int .u8 0, .int .u8 0, .int .u8 0, .int .u8 0, .int .u8 0] from h)
      clear h
      go_wp2_with fail
      refine (put2 w _ 1 119 _ HS.out (by omega) rfl).mono ?_
      rintro e wq ⟨rfl, h⟩
      have HS := hid (show Sg w wq #[.int .u8 114, .int .u8 119, .int .u8 0, .int .u8 0, .int .u8 0, .int .u8 0, .int .u8 0, .int .u8 0, .int .u8 0] from h)
      clear h
      go_wp2_with fail
      refine (put2 w _ 2 120 _ HS.out (by omega) rfl).mono ?_
      rintro e wq ⟨rfl, h⟩
      have HS := hid (show Sg w wq #[.int .u8 114, .int .u8 119, .int .u8 45, .int .u8 0, .int .u8 0, .int .u8 0, .int .u8 0, .int .u8 0, .int .u8 0] from h)
      clear h
      go_wp2_with fail
      go_roundw
      case rel => exact ⟨1, by omega, rfl, HS.out⟩
      case measure => simp [intOf]
    · go_wp2_with fail
      refine (put2 w _ 3 114 _ HS.out (by omega) rfl).mono ?_
      rintro e wq ⟨rfl, h⟩
      have HS := hid (show Sg w wq #[.int .u8 114, .int .u8 119, .int .u8 45, .int .u8 114, .int .u8 0, .int .u8 0, .int .u8 0, .int .u8 0, .int .u8 0] from h)
      clear h
      go_wp2_with fail
      refine (put2 w _ 4 119 _ HS.out (by omega) rfl).mono ?_
      rintro e wq ⟨rfl, h⟩
      have HS := hid (show Sg w wq #[.int .u8 114, .int .u8 119, .int .u8 45, .int .u8 114, .int .u8 45, .int .u8 0, .int .u8 0, .int .u8 0, .int .u8 0] from h)
      clear h
      go_wp2_with fail
      refine (put2 w _ 5 120 _ HS.out (by omega) rfl).mono ?_
      rintro e wq ⟨rfl, h⟩
      have HS := hid (show Sg w wq #[.int .u8 114, .int .u8 119, .int .u8 45, .int .u8 114, .int .u8 45, .int .u8 45, .int .u8 0, .int .u8 0, .int .u8 0] from h)
      clear h
      go_wp2_with fail
      go_roundw
      case rel => exact ⟨2, by omega, rfl, HS.out⟩
      case measure => simp [intOf]
    · go_wp2_with fail
      refine (put2 w _ 6 114 _ HS.out (by omega) rfl).mono ?_
      rintro e wq ⟨rfl, h⟩
      have HS := hid (show Sg w wq #[.int .u8 114, .int .u8 119, .int .u8 45, .int .u8 114, .int .u8 45, .int .u8 45, .int .u8 114, .int .u8 0, .int .u8 0] from h)
      clear h
      go_wp2_with fail
      refine (put2 w _ 7 119 _ HS.out (by omega) rfl).mono ?_
      rintro e wq ⟨rfl, h⟩
      have HS := hid (show Sg w wq #[.int .u8 114, .int .u8 119, .int .u8 45, .int .u8 114, .int .u8 45, .int .u8 45, .int .u8 114, .int .u8 45, .int .u8 0] from h)
      clear h
      go_wp2_with fail
      refine (put2 w _ 8 120 _ HS.out (by omega) rfl).mono ?_
      rintro e wq ⟨rfl, h⟩
      have HS := hid (show Sg w wq #[.int .u8 114, .int .u8 119, .int .u8 45, .int .u8 114, .int .u8 45, .int .u8 45, .int .u8 114, .int .u8 45, .int .u8 45] from h)
      clear h
      go_wp2_with fail
      go_roundw
      case rel => exact ⟨3, by omega, rfl, HS.out⟩
      case measure => simp [intOf]
    · have hcv := conv_signs HS.out
      go_wp2_with fail
      go_ret
      exact ⟨rfl, HS.out.below⟩

set_option maxRecDepth 100000 in
theorem lives (w : World) : Calls Tryd.prog 11 #[] w fun e w' => e = .returned (.bool true) ∧ Below w.heap.size w w' := by
  go_enter Tryd.func11, Tryd.ntmps11
  go_wp2_with fail
  refine (perm420 _).mono ?_
  rintro e w1 ⟨rfl, b1⟩
  have B1 := hid b1
  clear b1
  go_wp2_with fail
  refine (text0 _).mono ?_
  rintro e w2 ⟨rfl, b2⟩
  have B2 := hid (B1.out.trans (b2.mono B1.out.size))
  clear b2
  go_wp2_with fail
  go_ret
  exact ⟨rfl, B2.out⟩
end Nod
end Go.Proofs.YtbbjjhcpeablcaaDoor
