/- CommitCuts: rows of texts side by side; the law's walk. -/
import Derived.Test.YthgjijjalfhhcaaDoorCoG
import Derived.Deep.DeepCutAuto
namespace Go.Proofs.YthgjijjalfhhcaaDoor
set_option linter.unusedVariables false
open Go.RowKit
open Go.Proofs.Num
attribute [local go_sem ↓] Go.wp_at_zero Go.wp_at_succ
namespace Com
open Fld

/-- A slice that holds texts. -/
def Txts (w : World) (v : Value) (xs : List ByteArray) : Prop := ∃ (A : Option Addr) (g cap : Nat), v = .slice A xs.length cap ∧ ∀ i (h : i < xs.length), A = some ⟨g, 0, none⟩ ∧ w.cell? ⟨g, i, none⟩ = some (.string xs[i]) ∧ g < w.heap.size
theorem txts_of {w : World} {base k : Nat} {v : Value} {xs : List ByteArray} (hk : xs.length = k) (h : w.ownsRow base 9 1 v k (xs.map Value.string)) : Txts w v xs := by
  subst hk
  have hc := h
  rcases h.2 with ⟨rfl, h0⟩ | ⟨g, cap, cur, rfl, hb, hg, _⟩
  · exact ⟨none, 0, 0, by rw [h0], fun i hi => by omega⟩
  · refine ⟨_, g, cap, rfl, fun i hi => ⟨rfl, ?_, (Array.getElem?_eq_some_iff.1 hg).1⟩⟩
    have h2 := World.ownsRow.cells hc (g := g) (by simp [Value.ownBlock]) i (.string xs[i]) (by simp [hi])
    have hadd : (⟨g, 0, none⟩ : Addr).add i = ⟨g, i, none⟩ := by unfold Addr.add; split <;> simp_all
    rw [hadd] at h2
    exact h2
theorem Txts.step {w w' : World} {v : Value} {xs : List ByteArray} (h : Txts w v xs) (hb : Below w.heap.size w w') : Txts w' v xs := by
  obtain ⟨A, g, cap, rfl, hc⟩ := h
  exact ⟨A, g, cap, rfl, fun i hi => ⟨(hc i hi).1, (hb.cell (p := ⟨g, i, none⟩) (hc i hi).2.2).trans (hc i hi).2.1, Nat.lt_of_lt_of_le (hc i hi).2.2 hb.size⟩⟩

set_option maxRecDepth 100000 in
set_option maxHeartbeats 1000000 in
theorem same (v u : Value) (xs : List ByteArray) (w : World) (hv : Txts w v xs) (hu : Txts w u xs) (hn : xs.length ≤ 1000000) :
    Calls Tryd.prog 13 #[v, u] w fun e w' => e = .returned (.bool true) ∧ Below w.heap.size w w' := by
  obtain ⟨A, g, c1, rfl, h1⟩ := hv
  obtain ⟨B, h, c2, rfl, h2⟩ := hu
  have H1 := hid h1
  have H2 := hid h2
  clear h1 h2
  go_enter Tryd.func13, Tryd.ntmps13
  go_wp2_with fail
  go_loopw [13] (fun i wr => ∃ k : Nat, k ≤ xs.length ∧ i = .int .i64 (k : Int) ∧ Below w.heap.size w wr) (fun i _ => xs.length - (intOf i).toNat)
  case atStart => exact ⟨0, by omega, rfl, Below.refl _ _⟩
  case round =>
    obtain ⟨k, hk, rfl, hb⟩ := hrel
    have HB := hid hb
    clear hb
    by_cases hlt : k < xs.length
    · obtain ⟨rfl, d1, l1⟩ := H1.out k hlt
      obtain ⟨rfl, d2, l2⟩ := H2.out k hlt
      have e1 := (HB.out.cell (p := ⟨g, k, none⟩) l1).trans d1
      have e2 := (HB.out.cell (p := ⟨h, k, none⟩) l2).trans d2
      clear d1 d2
      generalize xs[k] = t at e1 e2
      go_wp2_with fail
      go_quiet (fail)
      go_wp2_with fail
      go_roundw
      case rel => exact ⟨k + 1, by omega, by go_num, ⟨HB.out.os, HB.out.tape, HB.out.output, HB.out.size, HB.out.block⟩⟩
      case measure => simp [intOf]; omega
    · go_wp2_with fail
      go_ret
      exact ⟨rfl, HB.out⟩
end Com
end Go.Proofs.YthgjijjalfhhcaaDoor
