/- WALKS: times as parts, whether they fit. -/
import Derived.Test.YtbcbimlcjcaegaaDoorDosZ
import Derived.Handy
namespace Go.Proofs.YtbcbimlcjcaegaaDoor
set_option linter.unusedVariables false
open Go.RowKit
open Go.Proofs.Dos
attribute [local go_sem ↓] Go.wp_at_zero Go.wp_at_succ

/-- Six cells of a block. -/
theorem six {w : World} {g : Nat} {T : TypeId} {a0 a1 a2 a3 a4 a5 : Value} (h : w.heap[g]? = some (.cells #[a0, a1, a2, a3, a4, a5] T (0, 0))) :
    w.cell? ⟨g, 0, none⟩ = some a0 ∧ w.cell? ⟨g, 1, none⟩ = some a1 ∧ w.cell? ⟨g, 2, none⟩ = some a2 ∧ w.cell? ⟨g, 3, none⟩ = some a3 ∧ w.cell? ⟨g, 4, none⟩ = some a4 ∧ w.cell? ⟨g, 5, none⟩ = some a5 ∧
    w.frozen? ⟨g, 0, none⟩ = false ∧ w.frozen? ⟨g, 1, none⟩ = false ∧ w.frozen? ⟨g, 2, none⟩ = false ∧ w.frozen? ⟨g, 3, none⟩ = false ∧ w.frozen? ⟨g, 4, none⟩ = false ∧ w.frozen? ⟨g, 5, none⟩ = false := by
  have c : ∀ j, w.cell? ⟨g, j, none⟩ = #[a0, a1, a2, a3, a4, a5][j]? := fun j => cell_of_row _ _ _ _ _ _ h
  have f : ∀ j, w.frozen? ⟨g, j, none⟩ = false := fun j => frozen_of_row _ _ _ _ _ h
  exact ⟨c 0, c 1, c 2, c 3, c 4, c 5, f 0, f 1, f 2, f 3, f 4, f 5⟩

set_option maxRecDepth 100000 in
set_option maxHeartbeats 2000000 in
theorem split (t : Int) (w : World) (hT : Tab w) (h0 : 0 ≤ t) (h1 : t < 4294967296) :
    Calls Tryd.prog 11 #[.int .u32 t] w fun e w' => e = .returned (told (splitI t)) ∧ Below w.heap.size w w' := by
  have HI := hid (split_ints h0 h1)
  have HP := hid (fun w => parts t w h0 h1)
  have HT := hid hT
  generalize splitI t = x at HI HP ⊢
  have HF := hid (show ∀ w' : World, Tab w' → Calls Tryd.prog 46 #[tV x] w' fun e w2 => e = .returned (.bool (fitsB x)) ∧ Below w'.heap.size w' w2 from fun w' h => fits x w' h HI.out)
  have HV := hid (show told x = if fitsB x then .tuple #[tV x, .bool true] else .tuple #[tV nought, .bool false] from rfl)
  generalize told x = r at HV ⊢
  have HN := hid (show tV nought = .agg #[.int .i64 0, .int .i64 0, .int .i64 0, .int .i64 0, .int .i64 0, .int .i64 0] from rfl)
  generalize tV nought = N at HV HN
  unfold tV at HF HV HP
  generalize fitsB x = b at HF HV
  go_enter Tryd.func11, Tryd.ntmps11
  go_wp2_with fail
  refine (HP.out _).mono ?_
  rintro e w1 ⟨rfl, hB1⟩
  have HB1 := hid hB1; clear hB1
  have HT1 := hid ((HT.out.alloc _).step HB1.out)
  have hz : w1.heap[w.heap.size]? = some (.cells #[.int .i64 0, .int .i64 0, .int .i64 0, .int .i64 0, .int .i64 0, .int .i64 0] 26 (0, 0)) := (HB1.out.block _ (by simp)).trans (heap_alloc_new _ _)
  obtain ⟨c0, c1, c2, c3, c4, c5, f0, f1, f2, f3, f4, f5⟩ := six hz
  have hsz : w.heap.size < w1.heap.size := by have := HB1.out.size; simp at this; omega
  have HB0 := hid (show Below w.heap.size w w1 from ((Below.refl _ _).alloc (Nat.le_refl _) _).trans (HB1.out.mono (by simp)))
  go_wp2_with fail
  refine (HF.out _ (HT1.out.alloc _)).mono ?_
  rintro e w2 ⟨rfl, hB2⟩
  have hsz2 : w1.heap.size < w2.heap.size := by have := hB2.size; simp at this; omega
  have hz2 : w2.heap[w.heap.size]? = _ := (hB2.block _ (by simp; omega)).trans ((Below.heap_alloc _ _ _ hsz).trans hz)
  have hx2 : w2.heap[w1.heap.size]? = _ := (hB2.block _ (by simp)).trans (heap_alloc_new _ _)
  obtain ⟨d0, d1, d2, d3, d4, d5, g0, g1, g2, g3, g4, g5⟩ := six hz2
  obtain ⟨e0, e1, e2, e3, e4, e5, _, _, _, _, _, _⟩ := six hx2
  have HB3 := hid (show Below w.heap.size w w2 from (HB0.out.alloc HB0.out.size _).trans (hB2.mono (by have := HB0.out.size; simp; omega)))
  clear hB2 hz2 hx2 hz c0 c1 c2 c3 c4 c5 f0 f1 f2 f3 f4 f5
  cases b
  · have hv := hid (show r = .tuple #[N, .bool false] from HV.out)
    clear HV
    go_wp2_with fail
    (try simp only [Exit.inBlock, Exit.then])
    refine bodyPost_ret (by simp [results, Tryd.results11, go_sem, d0, d1, d2, d3, d4, d5]; try rfl) rfl ?_
    refine ⟨by rw [hv.out, HN.out] <;> rfl, ?_⟩
    repeat (first | with_reducible exact HB3.out | with_reducible refine Below.setCell ?_ (by (dsimp only; omega)) _)
  · have hv := hid (show r = .tuple #[.agg #[.int .i64 x.year, .int .i64 x.month, .int .i64 x.day, .int .i64 x.hour, .int .i64 x.minute, .int .i64 x.second], .bool true] from HV.out)
    clear HV
    go_wp2_with fail
    (try simp only [Exit.inBlock, Exit.then])
    refine bodyPost_ret (by simp [results, Tryd.results11, go_sem, d0, d1, d2, d3, d4, d5]; try rfl) rfl ?_
    refine ⟨by rw [hv.out] <;> rfl, ?_⟩
    repeat (first | with_reducible exact HB3.out | with_reducible refine Below.setCell ?_ (by (dsimp only; omega)) _)
end Go.Proofs.YtbcbimlcjcaegaaDoor
