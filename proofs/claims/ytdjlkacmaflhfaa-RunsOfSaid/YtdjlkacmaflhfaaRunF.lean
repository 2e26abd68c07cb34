/- RUNS: rows that cannot be written; the document's example. -/
import Derived.Test.YtdjlkacmaflhfaaRunE
namespace Go.Proofs.Ytdjlkacmaflhfaa
set_option linter.unusedVariables false
open Go.RowKit
open Go.Proofs.Runs
attribute [local go_sem ↓] Go.wp_at_zero Go.wp_at_succ
namespace Run
set_option maxRecDepth 100000 in
theorem of_no (A : Option Addr) (b off len cap : Nat) (x : Nat → Int) (w : World) (hF : ¬ Fine x len) (hlen : len ≤ 450) (hx : Ints w A b off len x) :
    Calls Try.prog 22 #[.slice A len cap] w fun e w' => e = .returned (.slice none 0 0) ∧ Below w.heap.size w w' := by
  have HX := hid hx
  have HRL := hid (fun W h => rightLens_no A b off len cap x W hF hlen h)
  clear hx hF
  have HH : Hid (Hold w (w.alloc (.cells #[.slice A len cap] 40)) (.slice A len cap) (.slice none 0 0) []) := hid ⟨heap_alloc_new _ _, (Below.refl _ _).alloc (Nat.le_refl _) _, World.ownsRow_nil _ _ _ _⟩
  go_enter Try.func22, Try.ntmps22
  go_wp2_with fail
  generalize w.alloc (.cells #[.slice A len cap] 40) = W0 at HH ⊢
  have c0 := HH.out.cell
  refine (HRL.out _ (HX.out.below HH.out.below)).mono ?_
  rintro e w1 ⟨rfl, rfl⟩
  go_wp2_with fail
  go_ret
  exact ⟨rfl, HH.out.below⟩
theorem of_zeros : ofT (fun _ => 0) 4 = [(17, 3, 1)] := by decide
theorem zeros_fine : Fine (fun _ => 0) 4 := ⟨by decide, fun i _ => ⟨Int.le_refl 0, show (0 : Int) ≤ 15 by decide⟩⟩
set_option maxRecDepth 100000 in
theorem lives (w : World) : Calls Try.prog 21 #[] w fun e w' => e = .returned (.bool true) ∧ Below w.heap.size w w' := by
  have HI : Hid (Ints (w.alloc (.cells #[.int .i64 0, .int .i64 0, .int .i64 0, .int .i64 0] 3)) (some ⟨w.heap.size, 0, none⟩) w.heap.size 0 4 (fun _ => 0)) := hid ⟨fun _ => rfl, fun _ => by simp, fun i hi => by
    rw [cell_of_row _ _ _ _ _ _ (heap_alloc_new _ _)]
    match i, hi with
    | 0, _ => rfl
    | 1, _ => rfl
    | 2, _ => rfl
    | 3, _ => rfl⟩
  have HB : Hid (Below w.heap.size w (w.alloc (.cells #[.int .i64 0, .int .i64 0, .int .i64 0, .int .i64 0] 3))) := hid ((Below.refl _ _).alloc (Nat.le_refl _) _)
  go_enter Try.func21, Try.ntmps21
  go_wp2_with fail
  generalize w.alloc (.cells #[.int .i64 0, .int .i64 0, .int .i64 0, .int .i64 0] 3) = W0 at HI HB ⊢
  refine (of_yes _ w.heap.size 0 4 4 (fun _ => 0) W0 zeros_fine HI.out).mono ?_
  rintro e w1 ⟨⟨v, rfl, ho⟩, b1⟩
  rw [of_zeros] at ho
  have HB1 := hid (HB.out.trans (b1.mono HB.out.size))
  obtain ⟨A, c, g, rfl, hA, hs⟩ := ho.form
  obtain rfl := hA (by decide)
  obtain ⟨c0, c1, c2⟩ := hs.at_ 0 (by decide)
  rw [show sx [((17 : Int), (3 : Int), (1 : Int))] 0 = 17 from rfl] at c0
  rw [show sy [((17 : Int), (3 : Int), (1 : Int))] 0 = 3 from rfl] at c1
  rw [show sz [((17 : Int), (3 : Int), (1 : Int))] 0 = 1 from rfl] at c2
  clear hs hA ho b1
  go_wp2_with fail
  go_ret
  exact ⟨rfl, HB1.out⟩
end Run
end Go.Proofs.Ytdjlkacmaflhfaa
