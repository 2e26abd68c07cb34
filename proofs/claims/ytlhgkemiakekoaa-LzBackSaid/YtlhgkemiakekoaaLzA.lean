/- LZ: a text that is too short for a key; chains of places as they begin. -/
import Derived.Test.YtlhgkemiakekoaaProg
import Derived.WalkKit
import Derived.WalkSpells
import Derived.WalkLawsBesides
import Derived.Below
import Derived.Deep.RegionHeld3
import Derived.Deep.QuietTactic
import Derived.Deep.DrawnRows
import Derived.BigQuiet
import Derived.Handy
import Derived.IntWalk
import Derived.Deep.DeepCutAuto
import Derived.LoopIn
import Derived.LoopNIn
import Derived.OwnWalk
import Derived.Deep.Cut
import Derived.Deep.CutBlock
import Derived.LoopTactic
import Derived.Laws.AppendOwn
import Derived.Laws.OwnMore
import Derived.Deep.AppendLies
import Derived.Laws.Tables
namespace Go.Proofs.Ytlhgkemiakekoaa
set_option linter.unusedVariables false
open Go.RowKit
attribute [local go_sem ↓] Go.wp_at_zero Go.wp_at_succ
namespace Lz
theorem below_drewN {B : Nat} {a w : World} (h : Below B a w) (n : Nat) : Below B a (w.drewN n) := h.trans ⟨rfl, rfl, rfl, Nat.le_refl _, fun _ _ => rfl⟩
theorem drewN_add (w : World) (a b : Nat) : (w.drewN a).drewN b = w.drewN (a + b) := by simp [World.drewN, Nat.add_assoc]
theorem hid {p : Prop} (h : p) : Hid p := h
theorem ret_int {k : IntKind} {a b : Int} (h : a = b) : Ending.returned (.int k a) = .returned (.int k b) := by rw [h]
theorem ret_bool {a b : Bool} (h : a = b) : Ending.returned (.bool a) = .returned (.bool b) := by rw [h]
abbrev keyV (a b c : Int) : Value := .agg #[.int .u8 a, .int .u8 b, .int .u8 c]
abbrev tokV (b l k : Int) : Value := .agg #[.int .u8 b, .int .i64 l, .int .i64 k]

set_option maxRecDepth 100000 in
theorem keyAt_no (s : ByteArray) (at' : Int) (G : Nat) (w : World) (h0 : 0 ≤ at') (h1 : at' ≤ (s.size : Int)) (hs : s.size ≤ 1000000) (hshort : (s.size : Int) - at' < 3) (hGl : G < w.heap.size) (hG : w.cell? ⟨G, 0, none⟩ = some (.string s)) :
    Calls Try.prog 25 #[.pointer (some ⟨G, 0, none⟩), .int .i64 at'] w fun e w' => e = .returned (.tuple #[keyV 0 0 0, .bool false]) ∧ Below w.heap.size w w' := by
  have hs' : (s.size : Int) ≤ 1000000 := by omega
  have c1 : (w.alloc (.cells #[.int .u8 0, .int .u8 0, .int .u8 0] 57)).cell? ⟨G, 0, none⟩ = some (.string s) := (((Below.refl _ w).alloc (Nat.le_refl _) _).cell (p := ⟨G, 0, none⟩) hGl).trans hG
  have w0 : IntKind.i64.wrap ((s.size : Int) - at') = (s.size : Int) - at' := IntWalk.i64_in _ (by omega)
  clear hs hG
  go_enter Try.func25, Try.ntmps25
  go_wp2_with fail
  go_returns
  exact ⟨rfl, (Below.refl _ _).alloc (Nat.le_refl _) _⟩
set_option maxRecDepth 100000 in
theorem backs_ (G : Nat) (at' : Int) (w : World) :
    Calls Try.prog 24 #[.pointer (some ⟨G, 0, none⟩), .int .i64 at'] w fun e w' => e = .returned (.func (.func 26) #[] #[.pointer (some ⟨w.heap.size, 0, none⟩), .pointer (some ⟨w.heap.size + 1, 0, none⟩)]) ∧ w' = (w.alloc (.cells #[.pointer (some ⟨G, 0, none⟩)] 43)).alloc (.cells #[.int .i64 at'] 3) := by
  go_enter Try.func24, Try.ntmps24
  go_wp2_with fail
  go_ret
  exact ⟨rfl, rfl⟩
theorem und50 : Try.prog.underlying 50 = some (.slice 3) := by kernel_rfl
theorem info3 : (Try.prog.info? 3).map (fun i => (i.zero, i.size, i.bytes)) = some (some (.int .i64 0), 1, 8) := by kernel_rfl
theorem own_below {w w' : World} {B e size n : Nat} {v : Value} {xs : List Value} (h : w.ownsRow B e size v n xs) (hb : Below w.heap.size w w') : w'.ownsRow B e size v n xs := by
  refine ⟨h.1, ?_⟩
  rcases h.2 with hl | ⟨g, cap, cur, h1, h2, h3, h4⟩
  · exact .inl hl
  · exact .inr ⟨g, cap, cur, h1, h2, (hb.block g (Array.getElem?_eq_some_iff.1 h3).1).trans h3, h4⟩
set_option maxRecDepth 100000 in
theorem chains (s : ByteArray) (w : World) (hs : s.size ≤ 1000000) :
    Calls Try.prog 20 #[.string s] w fun e w' => ∃ G : Nat, e = .returned (.pointer (some ⟨G, 0, none⟩)) ∧ w.heap.size + 1 < G ∧ w'.heap[w.heap.size]? = some (.map #[] 0) ∧
      w'.ownsRow (w.heap.size + 1) 3 1 (.slice (some ⟨w.heap.size + 1, 0, none⟩) s.size s.size) s.size (madeCells #[.int .i64 0] s.size).toList ∧
      w'.heap[G]? = some (.cells #[.string s, .map (some w.heap.size), .slice (some ⟨w.heap.size + 1, 0, none⟩) s.size s.size] 52 (0, 0)) ∧ Below w.heap.size w w' := by
  have hmm := @run_makeMap Try.prog
  obtain ⟨i0, hi, hz0, hz1, hz2⟩ := info_parts info3
  have HI := hid hi
  have HM := hid (heap_alloc_new w (.map #[] 0))
  have HB := hid ((Below.refl _ w).alloc (Nat.le_refl _) (.map #[] 0))
  clear hi
  go_enter Try.func20, Try.ntmps20
  go_wp2_with (refine wpList_make_full _ rfl _ _ 50 rfl (w.heap.size + 1) 3 i0 (.int .i64 0) 1 und50 HI.out hz0 hz1 .i64 .i64 (s.size : Int) (s.size : Int) s.size rfl rfl rfl rfl (by rw [hz2]; omega) (by unfold maxLen; omega) (by simp) ?_; intro w1 ho1 hg1; have HG := hid hg1; have HO := hid ho1; clear hg1 ho1)
  have ho := HO.out
  simp only [World.size_alloc, Nat.mul_one, Value.cells] at ho
  have hb : Below w.heap.size w w1 := HB.out.grown HG.out (by simp) (fun k hk => by cases hk)
  have hl : w.heap.size + 1 < w1.heap.size := (ho.lt _ rfl).2
  have hm : w1.heap[w.heap.size]? = some (.map #[] 0) := (HG.out.block _ (by simp) (by simp)).trans HM.out
  go_ret
  exact ⟨w1.heap.size, rfl, hl, (Below.heap_alloc _ _ _ (by omega)).trans hm, ho.alloc _, heap_alloc_new _ _, hb.alloc hb.size _⟩
end Lz
end Go.Proofs.Ytlhgkemiakekoaa
