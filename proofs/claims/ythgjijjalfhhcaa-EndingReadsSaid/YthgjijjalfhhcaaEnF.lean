/- EndingReads: the readers at any place; the places, from behind. -/
import Derived.Test.YthgjijjalfhhcaaEnE
import Derived.RangeFuncNested
import Derived.RangeFuncBound
import Derived.RangeFuncCalls
import Derived.RangeFuncLeaves
import Derived.RangeFuncFrom
import Derived.Shelf.Abstract
import Derived.Shelf.RegionOpen
import Derived.WalkKit
import Derived.OwnWalkIn
import Derived.TacticsInMore
import Derived.LoopNIn
import Derived.LoopIn
namespace Go.Proofs.Ythgjijjalfhhcaa
set_option linter.unusedVariables false
open Go.RowKit Go.Shelf
open Go.Proofs.Num
attribute [local go_sem] Oper.semAt_some
namespace Edg
open Fld

/-- The places below k, from behind. -/
def down : Nat → List Nat
  | 0 => []
  | k + 1 => k :: down k
theorem down_length (k : Nat) : (down k).length = k := by
  induction k with
  | zero => rfl
  | succ k ih => simp [down, ih]

set_option maxRecDepth 100000 in
set_option maxHeartbeats 2000000 in
theorem places1 (F : Fence) (n : Nat) (h99 : F.fn 99) (hro : F.round = none) (hn : 1 ≤ n) (l Bn n₀ : Nat) (s : ByteArray) (hs : s.size ≤ 400) (J Jx : List Nat → World → Prop)
    (hY : ∀ (pre : List Nat) (x : Nat) (W : World), J pre W → pre.length < s.size - 21 → YieldAt F (n - 1) Try.prog l #[.int .i64 (x : Int)] W fun e W' =>
      (e = .returned (.bool true) ∧ J (pre ++ [x]) W' ∧ Below n₀ W W') ∨ (e = .returned (.bool false) ∧ Jx (pre ++ [x]) W'))
    (W : World) (hBn : W.cell? ⟨Bn, 0, none⟩ = some (.string s)) (h0 : J [] W) :
    CallsIn F n Try.prog 99 #[.func (.yield l) #[] #[], .pointer (some ⟨Bn, 0, none⟩)] W fun e W' => (∃ v, e = .returned v) ∧
      ((∃ ys, ys = down (s.size - 21) ∧ J ys W') ∨ (∃ pre, pre <+: down (s.size - 21) ∧ Jx pre W')) := by
  have i0 : (0 : Int) ≤ (s.size : Int) := by omega
  have i1 : (s.size : Int) ≤ 400 := by omega
  have HS := hid hs
  clear hs
  refine callsIn_of_wp Try.func99 rfl h99 ?_ hro
  simp only [Try.ntmps99, List.size_toArray, List.length_cons, List.length_nil, Nat.reduceAdd, Nat.reduceSub, Array.replicate_succ, Array.replicate_zero, List.push_toArray, List.append_toArray, List.nil_append, List.cons_append]
  gi_wp2
  gi_loopw [4] (fun i wr => ∃ (pre : List Nat) (k : Nat) (j : Int), i = .int .i64 j ∧ (j = (k : Int) - 1 ∨ (k = 0 ∧ j < 0)) ∧ -22 ≤ j ∧ k ≤ 400 ∧ down (s.size - 21) = pre ++ down k ∧ J pre wr) (fun i _ => (intOf i + 1).toNat)
  case atStart => exact ⟨[], s.size - 21, (s.size : Int) - 22, rfl, by omega, by omega, by have := HS.out; omega, rfl, h0⟩
  case round =>
    obtain ⟨pre, k, j, rfl, hj, hj2, hk, hd, hJs⟩ := hrel
    have HD := hid hd
    clear hd
    by_cases hz : 0 ≤ j
    · obtain ⟨m, rfl⟩ : ∃ m, k = m + 1 := ⟨k - 1, by omega⟩
      obtain rfl : j = (m : Int) := by omega
      obtain ⟨fn, tmps, assign, body, hy, hR⟩ := hY pre m wr hJs (by
        have := congrArg List.length HD.out
        rw [down_length, List.length_append, down_length] at this
        omega)
      have hm : (m : Int) ≤ 400 := by omega
      clear hj hj2 hk
      gi_wp2
      refine hR.mono ?_
      rintro e W3 (⟨rfl, hJ3, hk3⟩ | ⟨rfl, hJx3⟩)
      · gi_wp2
        go_roundw
        case rel => exact ⟨pre ++ [m], m, (m : Int) - 1, by go_num, by omega, by omega, by omega, by rw [HD.out]; simp [down], hJ3⟩
        case measure => simp [intOf]
      · gi_wp2
        refine bodyPost_ret (results_none rfl _ _ _) rfl ?_
        exact ⟨⟨_, rfl⟩, .inr ⟨pre ++ [m], ⟨down m, by rw [HD.out]; simp [down]⟩, hJx3⟩⟩
    · obtain rfl : k = 0 := by omega
      clear hj hj2 hk
      gi_wp2
      go_end0
      exact ⟨⟨_, rfl⟩, .inl (by rw [HD.out]; simpa [down] using hJs)⟩

theorem places_stops (F : Fence) (n : Nat) (h99 : F.fn 99) (hro : F.round = none) (hn : 1 ≤ n) (Bn n₀ : Nat) (s : ByteArray) (hs : s.size ≤ 400) (w : World) (hBn : Bn < w.heap.size) (hc : w.cell? ⟨Bn, 0, none⟩ = some (.string s)) :
    SeqStopsK F n Try.prog 99 #[.pointer (some ⟨Bn, 0, none⟩)] (fun x : Nat => #[Value.int .i64 (x : Int)]) (Below n₀) (fun ys => ys = down (s.size - 21)) (fun pre => pre <+: down (s.size - 21)) (s.size - 21) w := fun l J Jx W hW _ _ hY h0 =>
  places1 F n h99 hro hn l Bn n₀ s hs J Jx hY W ((hW.cell (p := ⟨Bn, 0, none⟩) hBn).trans hc) h0
end Edg
end Go.Proofs.Ythgjijjalfhhcaa
