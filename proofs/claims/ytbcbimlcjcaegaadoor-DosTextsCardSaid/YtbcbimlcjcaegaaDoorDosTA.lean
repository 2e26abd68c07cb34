/- WALKS: times of texts. -/
import Derived.Test.YtbcbimlcjcaegaaDoorDosU
import Derived.Test.YtbcbimlcjcaegaaDoorDosTM
import Derived.Test.YtbcbimlcjcaegaaDoorShelf2
import Derived.Shelf.Strconv.ErrVarAll
import Derived.Lib.AtoiErrMem
import Derived.Lib.AtoiBound
namespace Go.Proofs.YtbcbimlcjcaegaaDoor
set_option linter.unusedVariables false
open Go.RowKit
open Go.Proofs.Dos
attribute [local go_sem ↓] Go.wp_at_zero Go.wp_at_succ

/-- The library's two errors lie in the world. -/
def Errs (w : World) : Prop := ∃ e1 e2, w.cell? ⟨4, 0, none⟩ = some e1 ∧ w.cell? ⟨5, 0, none⟩ = some e2 ∧ (e1 = .nilIface ∨ ∃ te pe, e1 = .iface te pe) ∧ (e2 = .nilIface ∨ ∃ te pe, e2 = .iface te pe) ∧ 5 < w.heap.size
theorem Errs.step {w w' : World} (h : Errs w) (hB : Below w.heap.size w w') : Errs w' := by
  obtain ⟨e1, e2, h1, h2, h3, h4, h5⟩ := h
  exact ⟨e1, e2, (hB.cell (p := ⟨4, 0, none⟩) (by show 4 < w.heap.size; omega)).trans h1, (hB.cell (p := ⟨5, 0, none⟩) (by show 5 < w.heap.size; omega)).trans h2, h3, h4, Nat.lt_of_lt_of_le h5 hB.size⟩
theorem Errs.alloc {w : World} (h : Errs w) (o : Obj) : Errs (w.alloc o) := h.step ((Below.refl _ _).alloc (Nat.le_refl _) _)

/-- How Atoi ends. -/
theorem atoi_ends (s : ByteArray) (hs : s.size ≤ 100) (w : World) (hE : Errs w) :
    (∀ Q : Ending → World → Prop, (∀ w', Below w.heap.size w w' → Q (.returned (.tuple #[.int .i64 (numB s), .nilIface])) w') → Calls Tryd.prog 52 #[.string s] w Q) ∨
    (numB s = -1 ∧ ∀ Q : Ending → World → Prop, (∀ v N w', Below w.heap.size w w' → Q (.returned (.tuple #[.int .i64 v, .iface 92 (.pointer (some ⟨N, 0, none⟩))])) w') → Calls Tryd.prog 52 #[.string s] w Q) := by
  obtain ⟨e1, e2, h1, h2, h3, h4, h5⟩ := hE
  cases h : Lib.atoiAll s.data.toList
  · rename_i v
    refine .inl fun Q hQ => ?_
    have hn : numB s = v := by unfold numB; rw [h]
    refine (Tryd.strconv_Atoi_ok s (by omega) v h w).mono ?_
    rintro e w' ⟨rfl, hw⟩
    rw [hn] at hQ
    rcases hw with rfl | ⟨t, rfl⟩
    · exact hQ _ (Below.refl _ _)
    · exact hQ _ (Lib.bytesWorld_below w 5 t)
  · refine .inr ⟨by unfold numB; rw [h], fun Q hQ => ?_⟩
    refine (Any.strconv_Atoi_syntax Tryd.laysC172 s (by omega) h e1 w h1 h3).mono ?_
    rintro e w' ⟨N, rfl, _, _, hB⟩
    exact hQ _ _ _ hB
  · refine .inr ⟨by unfold numB; rw [h], fun Q hQ => ?_⟩
    refine (Any.strconv_Atoi_range Tryd.laysC172 s (by omega) h e2 w h2 h4).mono ?_
    rintro e w' ⟨N, rfl, _, _, hB⟩
    exact hQ _ _ _ hB

theorem num_bd (s : ByteArray) : -9223372036854775808 ≤ numB s ∧ numB s ≤ 9223372036854775807 := by
  unfold numB
  cases h : Lib.atoiAll s.data.toList
  · exact Lib.atoiAll_bounds h
  · exact ⟨by decide, by decide⟩
  · exact ⟨by decide, by decide⟩

set_option maxRecDepth 100000 in
theorem number (s : ByteArray) (F U g : Nat) (w : World) (hF : F ≤ U) (hU : U ≤ s.size) (hs : s.size = 19) (hA : w.cell? ⟨g, 0, none⟩ = some (.string s)) (hE : Errs w) :
    Calls Tryd.prog 51 #[.int .i64 (F : Int), .int .i64 (U : Int), .pointer (some ⟨g, 0, none⟩)] w fun e w' => e = .returned (.int .i64 (numB (s.extract F U))) ∧ Below w.heap.size w w' := by
  have hsz : (s.extract F U).size ≤ 100 := by rw [ByteArray.size_extract]; omega
  have HA := hid (atoi_ends (s.extract F U) hsz w hE)
  have q0 : (0 : Int) ≤ (F : Int) := by omega
  have q1 : (F : Int) ≤ (U : Int) := by omega
  have q2 : (U : Int) ≤ (s.size : Int) := by omega
  rcases HA.out with h | ⟨hn, h⟩
  · have HC := hid h
    clear HA h
    go_enter Tryd.func51, Tryd.ntmps51
    go_wp2_with fail
    refine HC.out _ fun w' hB => ?_
    have HB := hid hB; clear hB
    go_wp2_with fail
    go_ret
    exact ⟨rfl, HB.out⟩
  · have HC := hid h
    rw [hn]
    clear HA h hn
    go_enter Tryd.func51, Tryd.ntmps51
    go_wp2_with fail
    refine HC.out _ fun v N w' hB => ?_
    have HB := hid hB; clear hB
    go_wp2_with fail
    go_ret
    exact ⟨rfl, HB.out⟩
end Go.Proofs.YtbcbimlcjcaegaaDoor
