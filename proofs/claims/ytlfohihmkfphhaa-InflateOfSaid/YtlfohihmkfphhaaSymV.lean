/- WALKS over the program's codes: the first number of a code; the sign of a length, of a distance; the length of a sign. -/
import Derived.Test.YtlfohihmkfphhaaSymW
namespace Go.Proofs.Ytlfohihmkfphhaa
set_option linter.unusedVariables false
open Go.RowKit
open Go.Proofs.Sym
namespace Sg

/-- A block, as a callee leaves it. -/
structure One (w W : World) (G : Nat) (a : Array Value) (A : TypeId) : Prop where
  blk : W.heap[G]? = some (.cells a A (0, 0))
  below : Below w.heap.size w W
  low : w.heap.size ≤ G
theorem One.lt {w W : World} {G : Nat} {a : Array Value} {A : TypeId} (h : One w W G a A) : G < W.heap.size := (Array.getElem?_eq_some_iff.1 h.blk).1
theorem One.step {w W W' : World} {G : Nat} {a : Array Value} {A : TypeId} (h : One w W G a A) (b : Below W.heap.size W W') : One w W' G a A :=
  ⟨(b.block G h.lt).trans h.blk, h.below.trans (b.mono h.below.size), h.low⟩
theorem One.set {w W : World} {G : Nat} {a : Array Value} {A : TypeId} (h : One w W G a A) (j : Nat) (v : Value) : One w (W.setCell ⟨G, j, none⟩ v) G (a.setIfInBounds j v) A :=
  ⟨heap_setCell_same _ _ _ _ _ _ h.blk, h.below.setCell h.low v, h.low⟩
theorem One.set3 {w W : World} {G : Nat} {A : TypeId} {x0 x1 x2 : Value} (h : One w W G #[x0, x1, x2] A) (v0 v1 v2 : Value) :
    One w (((W.setCell ⟨G, 0, none⟩ v0).setCell ⟨G, 1, none⟩ v1).setCell ⟨G, 2, none⟩ v2) G #[v0, v1, v2] A := ((h.set 0 v0).set 1 v1).set 2 v2
theorem One.alloc {w W : World} {G : Nat} {a : Array Value} {A : TypeId} (h : One w W G a A) (o : Obj) : One w (W.alloc o) G a A := h.step ((Below.refl _ _).alloc (Nat.le_refl _) _)
theorem One.drew {w W : World} {G : Nat} {a : Array Value} {A : TypeId} (h : One w W G a A) : One w W.drew G a A := ⟨h.blk, h.below.drew, h.low⟩
theorem One.next {w W : World} {G : Nat} {a : Array Value} {A : TypeId} (h : One w W G a A) (b : Array Value) (B : TypeId) : One w (W.alloc (.cells b B)) W.heap.size b B :=
  ⟨heap_alloc_new W _, h.below.alloc h.below.size _, h.below.size⟩
theorem One.c {w W : World} {G : Nat} {a : Array Value} {A : TypeId} (h : One w W G a A) (j : Nat) : W.cell? ⟨G, j, none⟩ = a[j]? := cell_of_row _ _ _ _ _ _ h.blk
theorem One.f {w W : World} {G : Nat} {a : Array Value} {A : TypeId} (h : One w W G a A) (j : Nat) : W.frozen? ⟨G, j, none⟩ = false := frozen_of_row _ _ _ _ _ h.blk
theorem one_new (w : World) (a : Array Value) (A : TypeId) : One w (w.alloc (.cells a A)) w.heap.size a A := ⟨heap_alloc_new w _, (Below.refl _ _).alloc (Nat.le_refl _) _, Nat.le_refl _⟩

set_option maxRecDepth 100000 in
set_option maxHeartbeats 1000000 in
theorem rowFirst4 (P : Nat) (w : World) (hP : P ≤ 28) :
    Calls Try.prog 98 #[rowV 257 28 3 4, .int .i64 (257 + (P : Int))] w fun e w' => e = .returned (.int .i64 (beg 3 4 P : Nat)) ∧ Below w.heap.size w w' := by
  go_enter Try.func98, Try.ntmps98
  go_wp2_with fail
  have HT := hid (one_new w #[.int .i64 257, .int .i64 28, .int .i64 3, .int .i64 4] 118)
  generalize w.alloc (.cells #[.int .i64 257, .int .i64 28, .int .i64 3, .int .i64 4] 118) = W0 at HT ⊢
  generalize w.heap.size = G at HT ⊢
  go_loopw [5, 13] (fun bg i wr => ∃ p : Nat, p ≤ P ∧ i = .int .i64 p ∧ bg = .int .i64 (beg 3 4 p : Nat) ∧ One w wr G #[.int .i64 257, .int .i64 28, .int .i64 3, .int .i64 4] 118) (fun _ i _ => 28 - (intOf i).toNat)
  case atStart => exact ⟨0, by omega, rfl, rfl, HT.out⟩
  case round =>
    obtain ⟨p, hp, rfl, rfl, hone⟩ := hrel
    have HW := hid hone
    have HB := hid (beg_succ 3 4 p)
    have hb2 := beg4_le p (by omega)
    clear HT
    by_cases hlt : p < P
    · have a0 : wr.cell? ⟨G, 0, none⟩ = some (.int .i64 257) := hone.c 0
      have a1 : wr.cell? ⟨G, 1, none⟩ = some (.int .i64 28) := hone.c 1
      have a2 : wr.cell? ⟨G, 2, none⟩ = some (.int .i64 3) := hone.c 2
      have a3 : wr.cell? ⟨G, 3, none⟩ = some (.int .i64 4) := hone.c 3
      clear hone
      have hwd := wide4_le p (by omega)
      go_wp2_with fail
      refine (rowBits4 _ _ _ p _ (by omega)).mono ?_
      rintro e w1 ⟨rfl, hb1⟩
      have HW1 := hid (HW.out.step hb1)
      clear hb1 HW a0 a1 a2 a3
      have HN := hid (wrap_next _ _ _ HB.out (by omega) (by omega))
      generalize wide 4 p = y at HB hwd HN ⊢
      generalize beg 3 4 p = z at HB hb2 HN ⊢
      generalize hq : beg 3 4 (p + 1) = q at HB HN
      have HQ := hid hq
      clear hq
      go_wp2_with fail
      go_roundw
      case rel => exact ⟨p + 1, by omega, by go_num, val_int (by rw [HN.out, HQ.out]), HW1.out⟩
      case measure => simp [intOf]; omega
    · obtain rfl : p = P := by omega
      go_wp2_with fail
      go_ret
      exact ⟨rfl, HW.out.below⟩
set_option maxRecDepth 100000 in
set_option maxHeartbeats 1000000 in
theorem rowFirst2 (P : Nat) (w : World) (hP : P ≤ 30) :
    Calls Try.prog 98 #[rowV 0 30 1 2, .int .i64 (P : Int)] w fun e w' => e = .returned (.int .i64 (beg 1 2 P : Nat)) ∧ Below w.heap.size w w' := by
  go_enter Try.func98, Try.ntmps98
  go_wp2_with fail
  have HT := hid (one_new w #[.int .i64 0, .int .i64 30, .int .i64 1, .int .i64 2] 118)
  generalize w.alloc (.cells #[.int .i64 0, .int .i64 30, .int .i64 1, .int .i64 2] 118) = W0 at HT ⊢
  generalize w.heap.size = G at HT ⊢
  go_loopw [5, 13] (fun bg i wr => ∃ p : Nat, p ≤ P ∧ i = .int .i64 p ∧ bg = .int .i64 (beg 1 2 p : Nat) ∧ One w wr G #[.int .i64 0, .int .i64 30, .int .i64 1, .int .i64 2] 118) (fun _ i _ => 30 - (intOf i).toNat)
  case atStart => exact ⟨0, by omega, rfl, rfl, HT.out⟩
  case round =>
    obtain ⟨p, hp, rfl, rfl, hone⟩ := hrel
    have HW := hid hone
    have HB := hid (beg_succ 1 2 p)
    have hb2 := beg2_le p (by omega)
    clear HT
    by_cases hlt : p < P
    · have a0 : wr.cell? ⟨G, 0, none⟩ = some (.int .i64 0) := hone.c 0
      have a1 : wr.cell? ⟨G, 1, none⟩ = some (.int .i64 30) := hone.c 1
      have a2 : wr.cell? ⟨G, 2, none⟩ = some (.int .i64 1) := hone.c 2
      have a3 : wr.cell? ⟨G, 3, none⟩ = some (.int .i64 2) := hone.c 3
      clear hone
      have hwd := wide2_le p (by omega)
      go_wp2_with fail
      refine (rowBits2 _ _ _ p _ (by omega)).mono ?_
      rintro e w1 ⟨rfl, hb1⟩
      have HW1 := hid (HW.out.step hb1)
      clear hb1 HW a0 a1 a2 a3
      have HN := hid (wrap_next _ _ _ HB.out (by omega) (by omega))
      generalize wide 2 p = y at HB hwd HN ⊢
      generalize beg 1 2 p = z at HB hb2 HN ⊢
      generalize hq : beg 1 2 (p + 1) = q at HB HN
      have HQ := hid hq
      clear hq
      go_wp2_with fail
      go_roundw
      case rel => exact ⟨p + 1, by omega, by go_num, val_int (by rw [HN.out, HQ.out]), HW1.out⟩
      case measure => simp [intOf]; omega
    · obtain rfl : p = P := by omega
      go_wp2_with fail
      go_ret
      exact ⟨rfl, HW.out.below⟩

theorem sign_long {n c k m : Int} {ok : Bool} (h : IsLong n c k m ok) (hn : n ≠ 258) : IsSign 3 4 28 257 n c k m ok := by
  rcases h with ⟨h, _⟩ | ⟨_, p, hp, rfl, rfl, rfl, rfl⟩ | ⟨h, rfl, rfl, rfl, rfl⟩
  · exact absurd h hn
  · exact .inl ⟨p, hp, rfl, rfl, rfl, rfl⟩
  · exact .inr ⟨by rw [beg_longs]; omega, rfl, rfl, rfl, rfl⟩
theorem sign_back {n c k m : Int} {ok : Bool} (h : IsBack n c k m ok) : IsSign 1 2 30 0 n c k m ok := by
  rcases h with ⟨p, hp, rfl, rfl, rfl, rfl⟩ | ⟨h, rfl, rfl, rfl, rfl⟩
  · exact .inl ⟨p, hp, by omega, rfl, rfl, rfl⟩
  · exact .inr ⟨by rw [beg_backs]; omega, rfl, rfl, rfl, rfl⟩

/-- What a sign's function tells. -/
abbrev signE (c k m : Int) (ok : Bool) : Ending := .returned (.tuple #[.agg #[.int .i64 c, .int .i64 k, .int .i64 m], .bool ok])

set_option maxRecDepth 100000 in
set_option maxHeartbeats 1000000 in
theorem longSign (n c k m : Int) (ok : Bool) (w : World) (h : IsLong n c k m ok) (hn0 : -9223372036854775808 ≤ n) (hn1 : n ≤ 9223372036854775807) :
    Calls Try.prog 100 #[.int .i64 n] w fun e w' => e = signE c k m ok ∧ Below w.heap.size w w' := by
  by_cases h258 : n = 258
  · obtain ⟨rfl, rfl, rfl, rfl⟩ := long_fn h (.inl ⟨h258, rfl, rfl, rfl, rfl⟩)
    subst h258
    clear h
    go_enter Try.func100, Try.ntmps100
    go_wp2_with fail
    go_returns
    exact ⟨rfl, (Below.refl _ _).alloc (Nat.le_refl _) _⟩
  · have HS := hid (sign_long h h258)
    clear h
    have h258b : (n == 258) = false := by simpa using h258
    go_enter Try.func100, Try.ntmps100
    go_wp2_with fail
    have HT := hid (one_new w #[.int .i64 0, .int .i64 0, .int .i64 0] 121)
    generalize w.alloc (.cells #[.int .i64 0, .int .i64 0, .int .i64 0] 121) = W0 at HT ⊢
    generalize w.heap.size = G at HT ⊢
    refine (longsRow _).mono ?_
    rintro e w1 ⟨rfl, hb1⟩
    have HT1 := hid (HT.out.step hb1)
    clear hb1 HT
    go_wp2_with fail
    refine (rowSign4 n c k m ok _ HS.out hn0 hn1).mono ?_
    rintro e w2 ⟨rfl, hb2⟩
    have HT2 := hid (HT1.out.step hb2)
    clear hb2 HT1
    have f0 : w2.frozen? ⟨G, 0, none⟩ = false := HT2.out.f 0
    have f1 : w2.frozen? ⟨G, 1, none⟩ = false := HT2.out.f 1
    have f2 : w2.frozen? ⟨G, 2, none⟩ = false := HT2.out.f 2
    have r0 : w2.cell? ⟨G, 0, none⟩ = some (.int .i64 0) := HT2.out.c 0
    have r1 : w2.cell? ⟨G, 1, none⟩ = some (.int .i64 0) := HT2.out.c 1
    have r2 : w2.cell? ⟨G, 2, none⟩ = some (.int .i64 0) := HT2.out.c 2
    go_wp2_with fail
    have HF := hid (HT2.out.set3 (.int .i64 c) (.int .i64 k) (.int .i64 m))
    generalize ((w2.setCell ⟨G, 0, none⟩ (.int .i64 c)).setCell ⟨G, 1, none⟩ (.int .i64 k)).setCell ⟨G, 2, none⟩ (.int .i64 m) = W9 at HF ⊢
    have g0 : W9.cell? ⟨G, 0, none⟩ = some (.int .i64 c) := HF.out.c 0
    have g1 : W9.cell? ⟨G, 1, none⟩ = some (.int .i64 k) := HF.out.c 1
    have g2 : W9.cell? ⟨G, 2, none⟩ = some (.int .i64 m) := HF.out.c 2
    refine bodyPost_ret (v := .tuple #[.agg #[.int .i64 c, .int .i64 k, .int .i64 m], .bool ok]) (by simp [results, Try.results100, go_sem, g0, g1, g2]) rfl ?_
    exact ⟨rfl, HF.out.below⟩

set_option maxRecDepth 100000 in
set_option maxHeartbeats 1000000 in
theorem backSign (n c k m : Int) (ok : Bool) (w : World) (h : IsBack n c k m ok) (hn0 : -9223372036854775808 ≤ n) (hn1 : n ≤ 9223372036854775807) :
    Calls Try.prog 102 #[.int .i64 n] w fun e w' => e = signE c k m ok ∧ Below w.heap.size w w' := by
  have HS := hid (sign_back h)
  clear h
  go_enter Try.func102, Try.ntmps102
  go_wp2_with fail
  have HT := hid (one_new w #[.int .i64 0, .int .i64 0, .int .i64 0] 121)
  generalize w.alloc (.cells #[.int .i64 0, .int .i64 0, .int .i64 0] 121) = W0 at HT ⊢
  generalize w.heap.size = G at HT ⊢
  refine (backsRow _).mono ?_
  rintro e w1 ⟨rfl, hb1⟩
  have HT1 := hid (HT.out.step hb1)
  clear hb1 HT
  go_wp2_with fail
  refine (rowSign2 n c k m ok _ HS.out hn0 hn1).mono ?_
  rintro e w2 ⟨rfl, hb2⟩
  have HT2 := hid (HT1.out.step hb2)
  clear hb2 HT1
  have f0 : w2.frozen? ⟨G, 0, none⟩ = false := HT2.out.f 0
  have f1 : w2.frozen? ⟨G, 1, none⟩ = false := HT2.out.f 1
  have f2 : w2.frozen? ⟨G, 2, none⟩ = false := HT2.out.f 2
  have r0 : w2.cell? ⟨G, 0, none⟩ = some (.int .i64 0) := HT2.out.c 0
  have r1 : w2.cell? ⟨G, 1, none⟩ = some (.int .i64 0) := HT2.out.c 1
  have r2 : w2.cell? ⟨G, 2, none⟩ = some (.int .i64 0) := HT2.out.c 2
  go_wp2_with fail
  have HF := hid (HT2.out.set3 (.int .i64 c) (.int .i64 k) (.int .i64 m))
  generalize ((w2.setCell ⟨G, 0, none⟩ (.int .i64 c)).setCell ⟨G, 1, none⟩ (.int .i64 k)).setCell ⟨G, 2, none⟩ (.int .i64 m) = W9 at HF ⊢
  have g0 : W9.cell? ⟨G, 0, none⟩ = some (.int .i64 c) := HF.out.c 0
  have g1 : W9.cell? ⟨G, 1, none⟩ = some (.int .i64 k) := HF.out.c 1
  have g2 : W9.cell? ⟨G, 2, none⟩ = some (.int .i64 m) := HF.out.c 2
  refine bodyPost_ret (v := .tuple #[.agg #[.int .i64 c, .int .i64 k, .int .i64 m], .bool ok]) (by simp [results, Try.results102, go_sem, g0, g1, g2]) rfl ?_
  exact ⟨rfl, HF.out.below⟩

/-- A field of a row. -/
theorem field4 (w : World) : (Instr.field 118 (.agg #[.int .i64 257, .int .i64 28, .int .i64 3, .int .i64 4]) 0).run Try.prog w = .ok (.int .i64 257) w := by kernel_rfl
theorem field2 (w : World) : (Instr.field 118 (.agg #[.int .i64 0, .int .i64 30, .int .i64 1, .int .i64 2]) 0).run Try.prog w = .ok (.int .i64 0) w := by kernel_rfl
set_option maxRecDepth 100000 in
set_option maxHeartbeats 1000000 in
/-- How many bits a length's code has. -/
theorem longBits (c k : Int) (w : World) (h : IsLongBits c k) (hn0 : -9223372036854775808 ≤ c) (hn1 : c ≤ 9223372036854775807) :
    Calls Try.prog 85 #[.int .i64 c] w fun e w' => e = .returned (.int .i64 k) ∧ Below w.heap.size w w' := by
  by_cases h285 : c = 285
  · subst h285
    obtain rfl := longBits_285 h
    clear h
    go_enter Try.func85, Try.ntmps85
    go_wp2_with fail
    go_ret
    exact ⟨rfl, Below.refl _ _⟩
  · have h285b : (c == 285) = false := by simpa using h285
    by_cases hr : 257 ≤ c ∧ c < 285
    · obtain ⟨p, hp, rfl⟩ : ∃ p : Nat, p < 28 ∧ c = 257 + (p : Int) := ⟨(c - 257).toNat, by omega, by omega⟩
      obtain rfl := longBits_at hp h
      have hB : hasB 257 28 (257 + (p : Int)) = true := by unfold hasB; simp; omega
      clear h hr h285
      go_enter Try.func85, Try.ntmps85
      go_wp2_with fail
      refine (longsRow _).mono ?_
      rintro e w1 ⟨rfl, hb1⟩
      have H1 := hid hb1
      clear hb1
      go_wp2_with fail
      refine (rowHas _ _ _ _ _ _ (by omega) (by omega) (by omega) (by omega)).mono ?_
      rintro e w2 ⟨rfl, hb2⟩
      have H2 := hid (H1.out.trans (hb2.mono H1.out.size))
      clear hb2 H1
      rw [hB]
      go_wp2_with fail
      refine (longsRow _).mono ?_
      rintro e w3 ⟨rfl, hb3⟩
      have H3 := hid (H2.out.trans (hb3.mono H2.out.size))
      clear hb3 H2
      go_wp2_with fail
      refine (longsRow _).mono ?_
      rintro e w4 ⟨rfl, hb4⟩
      have H4 := hid (H3.out.trans (hb4.mono H3.out.size))
      clear hb4 H3
      have e257 : (257 + (p : Int) - 257) = (p : Int) := by omega
      have hf := field4 w4
      go_wp2_with fail
      try rw [e257]
      refine (rowBits4 _ _ _ p _ (by omega)).mono ?_
      rintro e w5 ⟨rfl, hb5⟩
      have H5 := hid (H4.out.trans (hb5.mono H4.out.size))
      clear hb5 H4
      go_wp2_with fail
      go_ret
      exact ⟨rfl, H5.out⟩
    · obtain rfl := longBits_none (by omega) h
      have hB : hasB 257 28 c = false := by unfold hasB; simp; omega
      clear h hr
      go_enter Try.func85, Try.ntmps85
      go_wp2_with fail
      refine (longsRow _).mono ?_
      rintro e w1 ⟨rfl, hb1⟩
      have H1 := hid hb1
      clear hb1
      go_wp2_with fail
      refine (rowHas _ _ _ _ _ _ (by omega) (by omega) (by omega) (by omega)).mono ?_
      rintro e w2 ⟨rfl, hb2⟩
      have H2 := hid (H1.out.trans (hb2.mono H1.out.size))
      clear hb2 H1
      rw [hB]
      go_wp2_with fail
      go_ret
      exact ⟨rfl, H2.out⟩
end Sg
end Go.Proofs.Ytlfohihmkfphhaa
