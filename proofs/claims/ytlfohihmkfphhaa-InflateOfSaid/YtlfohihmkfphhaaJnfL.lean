/- INFLATE: what is thrown is caught and told. -/
import Derived.Test.YtlfohihmkfphhaaJnfK
import Derived.Defers
import Derived.Recover
import Derived.Laws.Pointers
namespace Go.Proofs.Ytlfohihmkfphhaa
set_option linter.unusedVariables false
open Go.RowKit
open Go.Proofs.Huf
attribute [local go_sem ↓] Go.wp_at_zero Go.wp_at_succ
namespace Inf
open Huff
set_option maxRecDepth 100000 in
set_option maxHeartbeats 1000000 in
theorem catch3 (g : Nat) (older : List PanicEntry) (w : World) (x : Int) (hc : w.cell? ⟨g, 0, none⟩ = some (.int .i64 x)) (hz : w.frozen? ⟨g, 0, none⟩ = false) (hg : g < w.heap.size) :
    CallsD Try.prog 62 #[.pointer (some ⟨g, 0, none⟩)] (.panicking ({ v := .iface 85 (.agg #[]), recovered := false } :: older)) w fun e u' w' =>
      e = .returned (.tuple #[]) ∧ u' = .panicking ({ v := .iface 85 (.agg #[]), recovered := true } :: older) ∧ w' = (w.setCell ⟨g, 0, none⟩ (.int .i64 3)).alloc (.cells #[] 85) := by
  have t85 : ∀ W : World, (Instr.typeAssert (.iface 85 (.agg #[])) 20 85 true).run Try.prog W = .ok (.tuple #[.agg #[], .bool true]) W := fun _ => by kernel_rfl
  have t86 : ∀ W : World, (Instr.typeAssert (.iface 85 (.agg #[])) 20 86 true).run Try.prog W = .ok (.tuple #[.agg #[], .bool false]) W := fun _ => by kernel_rfl
  have t87 : ∀ W : World, (Instr.typeAssert (.iface 85 (.agg #[])) 20 87 true).run Try.prog W = .ok (.tuple #[.agg #[], .bool false]) W := fun _ => by kernel_rfl
  have hc2 : (w.alloc (.cells #[] 85)).cell? ⟨g, 0, none⟩ = some (.int .i64 x) := (World.cell?_alloc_past _ _ _ hg).trans hc
  refine callsD_of_wpS Try.func62 rfl fun c₀ cs hu => ?_
  apply wpS_seq
  apply wpS_region
  simp [wpOpsS, go_sem, recoverD, hu, Try.ntmps62, Exit.thenS]
  refine wpS_of_wp ?_
  have earr : (#[Value.pointer (some ⟨g, 0, none⟩)] ++ (Array.replicate 17 undef).setIfInBounds 5 (Value.iface 85 (Value.agg #[]))) = #[.pointer (some ⟨g, 0, none⟩), undef, undef, undef, undef, undef, .iface 85 (.agg #[]), undef, undef, undef, undef, undef, undef, undef, undef, undef, undef, undef] := rfl
  rw [earr]
  go_wp2_with fail
  simp [bodyPostS, results, Try.results62]
set_option maxRecDepth 100000 in
set_option maxHeartbeats 1000000 in
theorem catch2 (g : Nat) (older : List PanicEntry) (w : World) (x : Int) (hc : w.cell? ⟨g, 0, none⟩ = some (.int .i64 x)) (hz : w.frozen? ⟨g, 0, none⟩ = false) (hg : g < w.heap.size) :
    CallsD Try.prog 62 #[.pointer (some ⟨g, 0, none⟩)] (.panicking ({ v := .iface 86 (.agg #[]), recovered := false } :: older)) w fun e u' w' =>
      e = .returned (.tuple #[]) ∧ u' = .panicking ({ v := .iface 86 (.agg #[]), recovered := true } :: older) ∧ w' = (w.setCell ⟨g, 0, none⟩ (.int .i64 2)).alloc (.cells #[] 86) := by
  have t85 : ∀ W : World, (Instr.typeAssert (.iface 86 (.agg #[])) 20 85 true).run Try.prog W = .ok (.tuple #[.agg #[], .bool false]) W := fun _ => by kernel_rfl
  have t86 : ∀ W : World, (Instr.typeAssert (.iface 86 (.agg #[])) 20 86 true).run Try.prog W = .ok (.tuple #[.agg #[], .bool true]) W := fun _ => by kernel_rfl
  have t87 : ∀ W : World, (Instr.typeAssert (.iface 86 (.agg #[])) 20 87 true).run Try.prog W = .ok (.tuple #[.agg #[], .bool false]) W := fun _ => by kernel_rfl
  have hc2 : (w.alloc (.cells #[] 86)).cell? ⟨g, 0, none⟩ = some (.int .i64 x) := (World.cell?_alloc_past _ _ _ hg).trans hc
  refine callsD_of_wpS Try.func62 rfl fun c₀ cs hu => ?_
  apply wpS_seq
  apply wpS_region
  simp [wpOpsS, go_sem, recoverD, hu, Try.ntmps62, Exit.thenS]
  refine wpS_of_wp ?_
  have earr : (#[Value.pointer (some ⟨g, 0, none⟩)] ++ (Array.replicate 17 undef).setIfInBounds 5 (Value.iface 86 (Value.agg #[]))) = #[.pointer (some ⟨g, 0, none⟩), undef, undef, undef, undef, undef, .iface 86 (.agg #[]), undef, undef, undef, undef, undef, undef, undef, undef, undef, undef, undef] := rfl
  rw [earr]
  go_wp2_with fail
  simp [bodyPostS, results, Try.results62]
set_option maxRecDepth 100000 in
set_option maxHeartbeats 1000000 in
theorem catch4 (g : Nat) (older : List PanicEntry) (w : World) (x : Int) (hc : w.cell? ⟨g, 0, none⟩ = some (.int .i64 x)) (hz : w.frozen? ⟨g, 0, none⟩ = false) (hg : g < w.heap.size) :
    CallsD Try.prog 62 #[.pointer (some ⟨g, 0, none⟩)] (.panicking ({ v := .iface 87 (.agg #[]), recovered := false } :: older)) w fun e u' w' =>
      e = .returned (.tuple #[]) ∧ u' = .panicking ({ v := .iface 87 (.agg #[]), recovered := true } :: older) ∧ w' = (w.setCell ⟨g, 0, none⟩ (.int .i64 4)).alloc (.cells #[] 87) := by
  have t85 : ∀ W : World, (Instr.typeAssert (.iface 87 (.agg #[])) 20 85 true).run Try.prog W = .ok (.tuple #[.agg #[], .bool false]) W := fun _ => by kernel_rfl
  have t86 : ∀ W : World, (Instr.typeAssert (.iface 87 (.agg #[])) 20 86 true).run Try.prog W = .ok (.tuple #[.agg #[], .bool false]) W := fun _ => by kernel_rfl
  have t87 : ∀ W : World, (Instr.typeAssert (.iface 87 (.agg #[])) 20 87 true).run Try.prog W = .ok (.tuple #[.agg #[], .bool true]) W := fun _ => by kernel_rfl
  have hc2 : (w.alloc (.cells #[] 87)).cell? ⟨g, 0, none⟩ = some (.int .i64 x) := (World.cell?_alloc_past _ _ _ hg).trans hc
  refine callsD_of_wpS Try.func62 rfl fun c₀ cs hu => ?_
  apply wpS_seq
  apply wpS_region
  simp [wpOpsS, go_sem, recoverD, hu, Try.ntmps62, Exit.thenS]
  refine wpS_of_wp ?_
  have earr : (#[Value.pointer (some ⟨g, 0, none⟩)] ++ (Array.replicate 17 undef).setIfInBounds 5 (Value.iface 87 (Value.agg #[]))) = #[.pointer (some ⟨g, 0, none⟩), undef, undef, undef, undef, undef, .iface 87 (.agg #[]), undef, undef, undef, undef, undef, undef, undef, undef, undef, undef, undef] := rfl
  rw [earr]
  go_wp2_with fail
  simp [bodyPostS, results, Try.results62]
set_option maxRecDepth 100000 in
set_option maxHeartbeats 1000000 in
theorem catch_idle (g : Nat) (w : World) :
    CallsD Try.prog 62 #[.pointer (some ⟨g, 0, none⟩)] .returning w fun e u' w' => e = .returned (.tuple #[]) ∧ u' = .returning ∧ w' = w := by
  refine callsD_of_wpS Try.func62 rfl fun c₀ cs hu => ?_
  apply wpS_seq
  apply wpS_region
  simp [wpOpsS, go_sem, recoverD, hu, Try.ntmps62, Exit.thenS]
  refine wpS_of_wp ?_
  have earr : (#[Value.pointer (some ⟨g, 0, none⟩)] ++ (Array.replicate 17 undef).setIfInBounds 5 Value.nilIface) = #[.pointer (some ⟨g, 0, none⟩), undef, undef, undef, undef, undef, .nilIface, undef, undef, undef, undef, undef, undef, undef, undef, undef, undef, undef] := rfl
  rw [earr]
  go_wp2_with fail
  cases c₀
  simp_all [bodyPostS, results, Try.results62]
/-- What is told of what was thrown. -/
def codeOf (f : Nat) : Nat := if f = 3 then 3 else if f = 2 then 2 else 4
theorem catchW (f g : Nat) (older : List PanicEntry) (w : World) (x : Int) (hc : w.cell? ⟨g, 0, none⟩ = some (.int .i64 x)) (hz : w.frozen? ⟨g, 0, none⟩ = false) (hg : g < w.heap.size) :
    CallsD Try.prog 62 #[.pointer (some ⟨g, 0, none⟩)] (.panicking ({ v := .iface (tyOf f) (.agg #[]), recovered := false } :: older)) w fun e u' w' =>
      e = .returned (.tuple #[]) ∧ u' = .panicking ({ v := .iface (tyOf f) (.agg #[]), recovered := true } :: older) ∧ ∃ T, w' = (w.setCell ⟨g, 0, none⟩ (.int .i64 (codeOf f : Int))).alloc (.cells #[] T) := by
  unfold tyOf codeOf
  by_cases h3 : f = 3
  · simp only [if_pos h3]
    exact (catch3 g older w x hc hz hg).mono fun e u' w' ⟨a, b, c⟩ => ⟨a, b, 85, c⟩
  · simp only [if_neg h3]
    by_cases h2 : f = 2
    · simp only [if_pos h2]
      exact (catch2 g older w x hc hz hg).mono fun e u' w' ⟨a, b, c⟩ => ⟨a, b, 86, c⟩
    · simp only [if_neg h2]
      exact (catch4 g older w x hc hz hg).mono fun e u' w' ⟨a, b, c⟩ => ⟨a, b, 87, c⟩
theorem St.otherT {w w' : World} {S G B g : Nat} {s : ByteArray} {p : Nat} {v : Value} {out : List UInt8} {most : Nat} {c : Array Value} {t0 : TypeId} {r : Nat × Nat} (h : St w S G B s p v out most) (hg : w.heap[g]? = some (.cells c t0 r)) (ht : t0 ∉ TP) (o : Only g w w') : St w' S G B s p v out most := by
  have hne : ∀ {k : Nat} {cs : Array Value} {t : TypeId} {q : Nat × Nat}, w.heap[k]? = some (.cells cs t q) → t ∈ TP → w'.heap[k]? = some (.cells cs t q) := by
    intro k cs t q hk hi
    refine (o.block k (Array.getElem?_eq_some_iff.1 hk).1 ?_).trans hk
    rintro rfl
    rw [hg] at hk
    cases hk
    exact ht hi
  refine ⟨hne h.st (by decide), hne (show w.heap[G]? = _ from h.rd) (by decide), ⟨h.own.1, ?_⟩, h.lowS, h.lowG⟩
  rcases h.own.2 with hn | ⟨g', cap, cur, e, hb, hgg, h3⟩
  · exact .inl hn
  · exact .inr ⟨g', cap, cur, e, hb, hne hgg (by decide), h3⟩
set_option maxRecDepth 100000 in
set_option maxHeartbeats 2000000 in
/-- All blocks, and what went wrong. -/
theorem caughtB (S G B : Nat) (s : ByteArray) (p : Nat) (v : Value) (out : List UInt8) (most K F : Nat) (w : World) (h : St w S G B s p v out most) (hs : s.size ≤ 1048576) (hp : p ≤ 8 * s.size) (hm : most ≤ 65000) (ho : out.length ≤ most) (hK : 8 * s.size < K) (hF : 8 * s.size - p < F) :
    Calls Try.prog 39 #[.func (.func 40) #[.pointer (some ⟨S, 0, none⟩)] #[]] w fun e w' => (match blocksF most K F out (numS s) (8 * s.size) p with
      | .ok out' q => e = .returned (.int .i64 0) ∧ ∃ v', St w' S G B s q v' out' most
      | .bad f => e = .returned (.int .i64 (codeOf f : Int))) ∧ Kp TP B w w' := by
  have hmf : ∀ (fn : Fn) (first cap : Array Value) (w : World), (Instr.makeFunc fn first cap).run Try.prog w = .ok (.func fn first cap) w := fun _ _ _ _ => rfl
  have HBS := hid h.size
  have hb0 := (Below.refl w.heap.size w).alloc (Nat.le_refl _) (.cells #[.int .i64 0] 35)
  have HBW := hid (blocksW S G B s p v out most K F (w.alloc (.cells #[.int .i64 0] 35)) (h.grow hb0) hs hp hm ho hK hF)
  have HNB := hid (heap_alloc_new w (.cells #[.int .i64 0] 35))
  have HK0 := hid (Kp.of_below (T := TP) hb0 h.size)
  clear h hb0
  cases hb : blocksF most K F out (numS s) (8 * s.size) p with
  | bad f =>
    rw [hb] at HBW
    clear hb
    go_enter_defers Try.func39, Try.ntmps39
    go_wp2_with fail
    refine HBW.out.mono ?_
    rintro e w1 ⟨hd, k1⟩
    obtain rfl := hd.bad
    clear hd
    have hcell := k1.keep _ _ _ _ HNB.out (by decide)
    have K1 := hid (HK0.out.trans k1)
    have c0 : w1.cell? ⟨w.heap.size, 0, none⟩ = some (.int .i64 0) := by rw [cell_of_row _ _ _ _ _ _ hcell]; rfl
    have f0 : w1.frozen? ⟨w.heap.size, 0, none⟩ = false := frozen_of_row _ _ _ _ _ hcell
    have hlt := (Array.getElem?_eq_some_iff.1 hcell).1
    go_wp2_with fail
    refine leaves_cons (f := 62) (args := #[.pointer (some ⟨w.heap.size, 0, none⟩)]) (by simp) (by simp [go_sem]) ?_
    refine (catchW f w.heap.size [] w1 0 c0 f0 hlt).mono ?_
    rintro e u' w2 ⟨rfl, rfl, T, rfl⟩
    have hset := heap_setCell_same w1 w.heap.size 0 _ 35 (.int .i64 (codeOf f : Int)) hcell
    have hc2 : ((w1.setCell ⟨w.heap.size, 0, none⟩ (.int .i64 (codeOf f : Int))).alloc (.cells #[] T)).cell? ⟨w.heap.size, 0, none⟩ = some (.int .i64 (codeOf f : Int)) := by
      rw [World.cell?_alloc_past _ _ _ (by simp [World.setCell]; exact hlt), cell_of_row _ _ _ _ _ _ hset]
      rfl
    simp [Leaves, settle, results, Try.results39, go_sem, hc2]
    exact (K1.out.setNew HBS.out (Nat.le_refl _)).alloc (by have := HBS.out; simp [World.setCell]; omega) _
  | ok out' q =>
    rw [hb] at HBW
    clear hb
    go_enter_defers Try.func39, Try.ntmps39
    go_wp2_with fail
    refine HBW.out.mono ?_
    rintro e w1 ⟨⟨_, rfl, rfl, v1, h1⟩, k1⟩
    have hcell := k1.keep _ _ _ _ HNB.out (by decide)
    have c0 : w1.cell? ⟨w.heap.size, 0, none⟩ = some (.int .i64 0) := by rw [cell_of_row _ _ _ _ _ _ hcell]; rfl
    have f0 : w1.frozen? ⟨w.heap.size, 0, none⟩ = false := frozen_of_row _ _ _ _ _ hcell
    have K1 := hid (HK0.out.trans k1)
    have H1 := hid h1
    have HCL := hid hcell
    clear k1 h1 hcell
    go_wp2_with fail
    refine leaves_cons (f := 62) (args := #[.pointer (some ⟨w.heap.size, 0, none⟩)]) (by simp) (by simp [go_sem]) ?_
    refine (catch_idle w.heap.size _).mono ?_
    rintro e u' w2 ⟨rfl, rfl, rfl⟩
    have hset := heap_setCell_same w1 w.heap.size 0 _ 35 (.int .i64 0) HCL.out
    have hc2 : (w1.setCell ⟨w.heap.size, 0, none⟩ (.int .i64 0)).cell? ⟨w.heap.size, 0, none⟩ = some (.int .i64 0) := by
      rw [cell_of_row _ _ _ _ _ _ hset]
      rfl
    simp [Leaves, settle, results, Try.results39, go_sem, hc2]
    exact ⟨⟨v1, H1.out.otherT HCL.out (by decide) (Only.setCell _ _ _ _)⟩, K1.out.setNew HBS.out (Nat.le_refl _)⟩
end Inf
end Go.Proofs.Ytlfohihmkfphhaa
