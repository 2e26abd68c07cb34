/- CommitCuts: the iterator over sectors. -/
import Derived.Test.YthgjijjalfhhcaaDoorCoE
import Derived.RangeFuncNested
import Derived.RangeFuncBound
import Derived.RangeFuncCalls
import Derived.RangeFuncLeaves
import Derived.RangeFuncFrom
import Derived.Shelf.Abstract
import Derived.Shelf.RegionOpen
import Derived.OwnWalkIn
import Derived.TacticsInMore
import Derived.LoopNIn
import Derived.LoopIn
import Derived.Maps.AppendAt
namespace Go.Proofs.YthgjijjalfhhcaaDoor
set_option linter.unusedVariables false
open Go.RowKit Go.Shelf
attribute [local go_sem] Oper.semAt_some
namespace Com
open Fld

theorem row_kept {W W' : World} {row : Option Nat} {k : Nat} {cs : Array Value} {T : TypeId} (h : W.heap[k]? = some (.cells cs T (0, 0))) (hg : W.grownBy W' row) (hr : ∀ r, row = some r → ∃ o : Obj, W.heap[r]? = some o ∧ o.isCells = false) : W'.heap[k]? = some (.cells cs T (0, 0)) := by
  rw [hg.block k (Array.getElem?_eq_some_iff.1 h).1 ?_]
  · exact h
  · intro e
    obtain ⟨o, h1, h2⟩ := hr k e.symm
    rw [h] at h1
    cases h1
    cases h2
/-- A text's box stays. -/
def Stays (B : Nat) (W W' : World) : Prop := ∀ s : ByteArray, W.heap[B]? = some (.cells #[.string s] 9 (0, 0)) → W'.heap[B]? = some (.cells #[.string s] 9 (0, 0))
theorem stays_t {B : Nat} {X Y Z : World} (h : Stays B X Y) (k : Stays B Y Z) : Stays B X Z := fun s e => k s (h s e)
theorem stays_b {B : Nat} {w : World} (W : World) (l : Nat) (o o' : Obj) (hl : w.heap.size ≤ l) (h : W.heap[l]? = some o) (hc : o.isCells = false) (_ : o.isWalk = false) : Stays B W (W.putObj l o') :=
  fun s e => row_kept e (grownBy_putObj' W l o') (fun r er => by cases er; exact ⟨o, h, hc⟩)

/-- The first k sectors of a text. -/
def parts (p : ByteArray) (k : Nat) : List ByteArray := (List.range k).map fun i => p.extract (512 * i) (512 * i + 512)
theorem parts_length (p : ByteArray) (k : Nat) : (parts p k).length = k := by unfold parts; simp
theorem parts_succ (p : ByteArray) (k : Nat) : parts p (k + 1) = parts p k ++ [p.extract (512 * k) (512 * k + 512)] := by unfold parts; rw [List.range_succ, List.map_append]; rfl
theorem parts_pre (p : ByteArray) (k n : Nat) (h : k ≤ n) : parts p k <+: parts p n := by
  obtain ⟨d, rfl⟩ : ∃ d, n = k + d := ⟨n - k, by omega⟩
  clear h
  induction d with
  | zero => exact List.prefix_refl _
  | succ d ih => exact ih.trans ⟨[p.extract (512 * (k + d)) (512 * (k + d) + 512)], (parts_succ p (k + d)).symm⟩

set_option maxRecDepth 100000 in
set_option maxHeartbeats 2000000 in
theorem secs1 (F : Fence) (n : Nat) (h49 : F.fn 49) (hro : F.round = none) (hn : 1 ≤ n) (l Bn : Nat) (p : ByteArray) (q : Nat) (hp : p.size = 512 * q) (hq : q ≤ 1000) (J Jx : List ByteArray → World → Prop)
    (hY : ∀ (pre : List ByteArray) (x : ByteArray) (W : World), J pre W → pre.length < q → YieldAt F (n - 1) Tryd.prog l #[.string x] W fun e W' =>
      (e = .returned (.bool true) ∧ J (pre ++ [x]) W' ∧ Stays Bn W W') ∨ (e = .returned (.bool false) ∧ Jx (pre ++ [x]) W'))
    (W : World) (hBn : W.heap[Bn]? = some (.cells #[.string p] 9 (0, 0))) (h0 : J [] W) :
    CallsIn F n Tryd.prog 49 #[.func (.yield l) #[] #[], .pointer (some ⟨Bn, 0, none⟩)] W fun e W' => (∃ v, e = .returned v) ∧
      ((∃ ys, ys = parts p q ∧ J ys W') ∨ (∃ pre, pre <+: parts p q ∧ Jx pre W')) := by
  have HB := hid hBn
  have HP := hid hp
  clear hBn hp
  refine callsIn_of_wp Tryd.func49 rfl h49 ?_ hro
  simp only [Tryd.ntmps49, List.size_toArray, List.length_cons, List.length_nil, Nat.reduceAdd, Nat.reduceSub, Array.replicate_succ, Array.replicate_zero, List.push_toArray, List.append_toArray, List.nil_append, List.cons_append]
  gi_wp2
  gi_loopw [3] (fun i wr => ∃ k : Nat, i = .int .i64 ((512 * k : Nat) : Int) ∧ k ≤ q ∧ wr.heap[Bn]? = some (.cells #[.string p] 9 (0, 0)) ∧ J (parts p k) wr) (fun i _ => p.size - (intOf i).toNat)
  case atStart => exact ⟨0, rfl, by omega, HB.out, h0⟩
  case round =>
    obtain ⟨k, rfl, hk, hb, hJ⟩ := hrel
    have HBk := hid hb
    have hcb : wr.cell? ⟨Bn, 0, none⟩ = some (.string p) := by rw [cell_of_row _ _ _ _ _ _ hb]; rfl
    clear hb HB
    have hpz := HP.out
    by_cases hlt : k < q
    · obtain ⟨fn, tmps, assign, body, hy, hR⟩ := hY (parts p k) (p.extract (512 * k) (512 * k + 512)) wr hJ (by rw [parts_length]; exact hlt)
      have HT := hid (parts_succ p k)
      have h1 : ((512 * k : Nat) : Int) < (p.size : Int) := by omega
      have h2 : ((512 * k : Nat) : Int) + 512 ≤ (p.size : Int) := by omega
      have h3 : (p.size : Int) ≤ 512000 := by omega
      obtain ⟨m, hm⟩ : ∃ m, 512 * k = m := ⟨_, rfl⟩
      have HM := hid hm
      rw [hm] at hy hR HT h1 h2 ⊢
      clear hm hpz
      gi_wp2
      refine hR.mono ?_
      rintro e W3 (⟨rfl, hJ3, hk3⟩ | ⟨rfl, hJx3⟩)
      · gi_wp2
        go_roundw
        case rel => exact ⟨k + 1, by have := HM.out; go_num, by omega, hk3 p HBk.out, by rw [HT.out]; exact hJ3⟩
        case measure => have := HM.out; simp [intOf]; omega
      · gi_wp2
        refine bodyPost_ret (results_none rfl _ _ _) rfl ?_
        exact ⟨⟨_, rfl⟩, .inr ⟨parts p k ++ [p.extract m (m + 512)], by rw [← HT.out]; exact parts_pre p _ _ (by omega), hJx3⟩⟩
    · obtain rfl : k = q := by omega
      have h1 : ¬ ((512 * k : Nat) : Int) < (p.size : Int) := by omega
      clear hpz
      gi_wp2
      go_end0
      exact ⟨⟨_, rfl⟩, .inl (by first | exact hJ | exact ⟨_, rfl, hJ⟩)⟩

theorem secs_stops (F : Fence) (n : Nat) (h49 : F.fn 49) (hro : F.round = none) (hn : 1 ≤ n) (Bn : Nat) (p : ByteArray) (q : Nat) (hp : p.size = 512 * q) (hq : q ≤ 1000) (w : World) (hc : w.heap[Bn]? = some (.cells #[.string p] 9 (0, 0))) :
    SeqStopsK F n Tryd.prog 49 #[.pointer (some ⟨Bn, 0, none⟩)] (fun x : ByteArray => #[Value.string x]) (Stays Bn) (fun ys => ys = parts p q) (fun pre => pre <+: parts p q) q w := fun l J Jx W hW _ _ hY h0 =>
  secs1 F n h49 hro hn l Bn p q hp hq J Jx hY W ((hW.block _ (Array.getElem?_eq_some_iff.1 hc).1).trans hc) h0

theorem sectors_ (s : ByteArray) (w : World) : Calls Tryd.prog 30 #[.string s] w fun e w' => e = .returned (.func (.func 49) #[] #[.pointer (some ⟨w.heap.size, 0, none⟩)]) ∧ w' = w.alloc (.cells #[.string s] 9) := by
  go_enter Tryd.func30, Tryd.ntmps30
  go_wp2
  go_ret
  exact ⟨rfl, rfl⟩
end Com
end Go.Proofs.YthgjijjalfhhcaaDoor
