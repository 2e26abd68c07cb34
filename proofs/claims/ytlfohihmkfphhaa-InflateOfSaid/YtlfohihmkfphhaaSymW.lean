/- WALKS over the program's codes with bits behind them. -/
import Derived.Test.YtlfohihmkfphhaaProg
import Derived.Test.YtlfohihmkfphhaaSymM
import Derived.WalkKit
import Derived.WalkSpells
import Derived.WalkLawsBesides
import Derived.Handy
import Derived.Below
import Derived.Outline
namespace Go.Proofs.Ytlfohihmkfphhaa
set_option linter.unusedVariables false
open Go.RowKit
open Go.Proofs.Sym
namespace Sg

theorem hid {p : Prop} (h : p) : Hid p := h
theorem val_int {k : IntKind} {a b : Int} (h : a = b) : Value.int k a = .int k b := by rw [h]
theorem ret_int {k : IntKind} {a b : Int} (h : a = b) : Ending.returned (.int k a) = .returned (.int k b) := by rw [h]

/-- A row of codes, as the program hands it on. -/
abbrev rowV (c m b e : Int) : Value := .agg #[.int .i64 c, .int .i64 m, .int .i64 b, .int .i64 e]

set_option maxRecDepth 100000 in
theorem longsRow (w : World) : Calls Try.prog 95 #[] w fun e w' => e = .returned (rowV 257 28 3 4) ∧ Below w.heap.size w w' := by
  go_enter Try.func95, Try.ntmps95
  go_wp2_with fail
  go_returns
  exact ⟨rfl, (Below.refl _ _).alloc (Nat.le_refl _) _⟩

set_option maxRecDepth 100000 in
theorem backsRow (w : World) : Calls Try.prog 101 #[] w fun e w' => e = .returned (rowV 0 30 1 2) ∧ Below w.heap.size w w' := by
  go_enter Try.func101, Try.ntmps101
  go_wp2_with fail
  go_returns
  exact ⟨rfl, (Below.refl _ _).alloc (Nat.le_refl _) _⟩

theorem wide4 (p : Nat) : max ((p : Int) / 4 - 1) 0 = (wide 4 p : Int) := by unfold wide; omega
theorem wide2 (p : Nat) : max ((p : Int) / 2 - 1) 0 = (wide 2 p : Int) := by unfold wide; omega

set_option maxRecDepth 100000 in
theorem rowBits4 (c m b : Int) (p : Nat) (w : World) (hp : p ≤ 100) :
    Calls Try.prog 97 #[rowV c m b 4, .int .i64 p] w fun e w' => e = .returned (.int .i64 (wide 4 p : Int)) ∧ Below w.heap.size w w' := by
  have hw := wide4 p
  have HW := hid hw
  clear hw
  go_enter Try.func97, Try.ntmps97
  go_wp2_with fail
  all_goals
    go_ret
    exact ⟨ret_int (by have := HW.out; omega), (Below.refl _ _).alloc (Nat.le_refl _) _⟩

set_option maxRecDepth 100000 in
theorem rowBits2 (c m b : Int) (p : Nat) (w : World) (hp : p ≤ 100) :
    Calls Try.prog 97 #[rowV c m b 2, .int .i64 p] w fun e w' => e = .returned (.int .i64 (wide 2 p : Int)) ∧ Below w.heap.size w w' := by
  have hw := wide2 p
  have HW := hid hw
  clear hw
  go_enter Try.func97, Try.ntmps97
  go_wp2_with fail
  all_goals
    go_ret
    exact ⟨ret_int (by have := HW.out; omega), (Below.refl _ _).alloc (Nat.le_refl _) _⟩

/-- Has a row a code? -/
def hasB (c : Int) (m : Int) (x : Int) : Bool := decide (c ≤ x) && decide (x < c + m)
set_option maxRecDepth 100000 in
theorem rowHas (c m b e x : Int) (w : World) (hc : 0 ≤ c) (hc1 : c ≤ 300) (hm : 0 ≤ m) (hm1 : m ≤ 300) :
    Calls Try.prog 96 #[rowV c m b e, .int .i64 x] w fun e w' => e = .returned (.bool (hasB c m x)) ∧ Below w.heap.size w w' := by
  by_cases h1 : c ≤ x
  · by_cases h2 : x < c + m
    · go_enter Try.func96, Try.ntmps96
      go_wp2_with fail
      go_ret
      exact ⟨by unfold hasB; simp [h1, h2], (Below.refl _ _).alloc (Nat.le_refl _) _⟩
    · go_enter Try.func96, Try.ntmps96
      go_wp2_with fail
      go_ret
      exact ⟨by unfold hasB; simp [h1, h2], (Below.refl _ _).alloc (Nat.le_refl _) _⟩
  · go_enter Try.func96, Try.ntmps96
    go_wp2_with fail
    go_ret
    exact ⟨by unfold hasB; rw [decide_eq_false (show ¬ c ≤ x by omega)]; rfl, (Below.refl _ _).alloc (Nat.le_refl _) _⟩

/-- What a row says of a number. -/
def IsSign (b e mm : Nat) (c0 n c k m : Int) (ok : Bool) : Prop :=
  (∃ p, At b e mm n p ∧ c = c0 + (p : Int) ∧ k = (wide e p : Int) ∧ m = n - (beg b e p : Int) ∧ ok = true) ∨ ((n < (b : Int) ∨ (beg b e mm : Int) ≤ n) ∧ c = 0 ∧ k = 0 ∧ m = 0 ∧ ok = false)

theorem wide4_le (p : Nat) (h : p ≤ 28) : wide 4 p ≤ 6 := by unfold wide; omega
theorem wide2_le (p : Nat) (h : p ≤ 30) : wide 2 p ≤ 14 := by unfold wide; omega
theorem beg4_le (p : Nat) (h : p ≤ 28) : beg 3 4 p ≤ 259 := by rw [← beg_longs]; exact beg_le 3 4 p 28 h
theorem beg2_le (p : Nat) (h : p ≤ 30) : beg 1 2 p ≤ 32769 := by rw [← beg_backs]; exact beg_le 1 2 p 30 h


/-- A callee has left two blocks as they were. -/
structure Two (w W : World) (G : Nat) (a r : Array Value) (A R : TypeId) : Prop where
  blkA : W.heap[G]? = some (.cells a A (0, 0))
  blkR : W.heap[G + 1]? = some (.cells r R (0, 0))
  below : Below w.heap.size w W
  low : w.heap.size ≤ G
theorem Two.lt {w W : World} {G : Nat} {a r : Array Value} {A R : TypeId} (h : Two w W G a r A R) : G + 1 < W.heap.size := (Array.getElem?_eq_some_iff.1 h.blkR).1
theorem Two.step {w W W' : World} {G : Nat} {a r : Array Value} {A R : TypeId} (h : Two w W G a r A R) (b : Below W.heap.size W W') : Two w W' G a r A R :=
  ⟨(b.block G (by have := h.lt; omega)).trans h.blkA, (b.block (G + 1) h.lt).trans h.blkR, h.below.trans (b.mono h.below.size), h.low⟩
theorem Two.cA {w W : World} {G : Nat} {a r : Array Value} {A R : TypeId} (h : Two w W G a r A R) (j : Nat) : W.cell? ⟨G, j, none⟩ = a[j]? := cell_of_row _ _ _ _ _ _ h.blkA
theorem Two.cR {w W : World} {G : Nat} {a r : Array Value} {A R : TypeId} (h : Two w W G a r A R) (j : Nat) : W.cell? ⟨G + 1, j, none⟩ = r[j]? := cell_of_row _ _ _ _ _ _ h.blkR
theorem Two.fR {w W : World} {G : Nat} {a r : Array Value} {A R : TypeId} (h : Two w W G a r A R) (j : Nat) : W.frozen? ⟨G + 1, j, none⟩ = false := frozen_of_row _ _ _ _ _ h.blkR
theorem Two.set {w W : World} {G : Nat} {a r : Array Value} {A R : TypeId} (h : Two w W G a r A R) (j : Nat) (v : Value) : Two w (W.setCell ⟨G + 1, j, none⟩ v) G a (r.setIfInBounds j v) A R :=
  ⟨(Below.heap_setCell _ _ _ _ (by simp)).trans h.blkA, heap_setCell_same _ _ _ _ _ _ h.blkR, h.below.setCell (Nat.le_succ_of_le h.low) v, h.low⟩
theorem Two.set3 {w W : World} {G : Nat} {a : Array Value} {A R : TypeId} {x0 x1 x2 : Value} (h : Two w W G a #[x0, x1, x2] A R) (v0 v1 v2 : Value) :
    Two w (((W.setCell ⟨G + 1, 0, none⟩ v0).setCell ⟨G + 1, 1, none⟩ v1).setCell ⟨G + 1, 2, none⟩ v2) G a #[v0, v1, v2] A R := ((h.set 0 v0).set 1 v1).set 2 v2
theorem two_new (w : World) (a r : Array Value) (A R : TypeId) : Two w ((w.alloc (.cells a A)).alloc (.cells r R)) w.heap.size a r A R := by
  refine ⟨?_, ?_, ((Below.refl _ _).alloc (Nat.le_refl _) _).alloc (by simp) _, Nat.le_refl _⟩
  · rw [Below.heap_alloc _ _ _ (by simp)]; exact heap_alloc_new w _
  · have := heap_alloc_new (w.alloc (.cells a A)) (.cells r R); simpa using this

theorem pow_le6 (k : Nat) (h : k ≤ 14) : 2 ^ k ≤ 16384 := by
  have := Nat.pow_le_pow_right (show 0 < 2 by decide) h
  omega


theorem wrap_next (z y q : Nat) (h : q = z + 2 ^ y) (hz : z ≤ 40000) (hy : y ≤ 14) : wrap64 ((z : Int) + wrap64 (2 ^ y)) = (q : Int) := by
  have h1 := pow_le6 y hy
  have h2 : ((2 : Int) ^ y) = ((2 ^ y : Nat) : Int) := by simp
  rw [h2]
  generalize 2 ^ y = x at *
  unfold wrap64
  omega

theorem sign_fn {b e mm : Nat} {c0 n c k m c' k' m' : Int} {ok ok' : Bool} (h : IsSign b e mm c0 n c k m ok) (h' : IsSign b e mm c0 n c' k' m' ok') : c = c' ∧ k = k' ∧ m = m' ∧ ok = ok' := by
  rcases h with ⟨p, hp, rfl, rfl, rfl, rfl⟩ | ⟨a, rfl, rfl, rfl, rfl⟩ <;> rcases h' with ⟨p', hp', rfl, rfl, rfl, rfl⟩ | ⟨a', rfl, rfl, rfl, rfl⟩
  · obtain rfl := at_one hp hp'
    exact ⟨rfl, rfl, rfl, rfl⟩
  · have h1 := at_lo hp
    have h2 := at_hi hp
    omega
  · have h1 := at_lo hp'
    have h2 := at_hi hp'
    omega
  · exact ⟨rfl, rfl, rfl, rfl⟩

theorem sign_val {b e mm : Nat} {c0 n c k m c' k' m' : Int} {ok ok' : Bool} (h : IsSign b e mm c0 n c k m ok) (h' : IsSign b e mm c0 n c' k' m' ok') :
    Ending.returned (.tuple #[.agg #[.int .i64 c', .int .i64 k', .int .i64 m'], .bool ok']) = .returned (.tuple #[.agg #[.int .i64 c, .int .i64 k, .int .i64 m], .bool ok]) := by
  obtain ⟨rfl, rfl, rfl, rfl⟩ := sign_fn h h'
  rfl
set_option maxRecDepth 100000 in
set_option maxHeartbeats 1000000 in
theorem rowSign4 (n c k m : Int) (ok : Bool) (w : World) (h : IsSign 3 4 28 257 n c k m ok) (hn0 : -9223372036854775808 ≤ n) (hn1 : n ≤ 9223372036854775807) :
    Calls Try.prog 105 #[rowV 257 28 3 4, .int .i64 n] w fun e w' => e = .returned (.tuple #[.agg #[.int .i64 c, .int .i64 k, .int .i64 m], .bool ok]) ∧ Below w.heap.size w w' := by
  have HS := hid h; clear h
  go_enter Try.func105, Try.ntmps105
  go_wp2_with fail
  have HT := hid (two_new w #[.int .i64 257, .int .i64 28, .int .i64 3, .int .i64 4] #[.int .i64 0, .int .i64 0, .int .i64 0] 118 121)
  generalize (w.alloc (.cells #[.int .i64 257, .int .i64 28, .int .i64 3, .int .i64 4] 118)).alloc (.cells #[.int .i64 0, .int .i64 0, .int .i64 0] 121) = W0 at HT ⊢
  generalize w.heap.size = G at HT ⊢
  go_loopw [6, 13] (fun bg i wr => ∃ p : Nat, p ≤ 28 ∧ i = .int .i64 p ∧ bg = .int .i64 (beg 3 4 p : Nat) ∧ (n < 3 ∨ (beg 3 4 p : Int) ≤ n) ∧ Two w wr G #[.int .i64 257, .int .i64 28, .int .i64 3, .int .i64 4] #[.int .i64 0, .int .i64 0, .int .i64 0] 118 121) (fun _ i _ => 28 - (intOf i).toNat)
  case atStart => exact ⟨0, by omega, rfl, rfl, by have e : beg 3 4 0 = 3 := rfl; rw [e]; omega, HT.out⟩
  case round =>
    obtain ⟨p, hp, rfl, rfl, hlo, htwo⟩ := hrel
    have HW := hid htwo
    have HL := hid hlo
    have HB := hid (beg_succ 3 4 p)
    have hb2 := beg4_le p hp
    clear hlo HT
    by_cases hlt : p < 28
    · have a0 : wr.cell? ⟨G, 0, none⟩ = some (.int .i64 257) := htwo.cA 0
      have a1 : wr.cell? ⟨G, 1, none⟩ = some (.int .i64 28) := htwo.cA 1
      have a2 : wr.cell? ⟨G, 2, none⟩ = some (.int .i64 3) := htwo.cA 2
      have a3 : wr.cell? ⟨G, 3, none⟩ = some (.int .i64 4) := htwo.cA 3
      clear htwo
      have hwd := wide4_le p hp
      go_wp2_with fail
      refine (rowBits4 _ _ _ p _ (by omega)).mono ?_
      rintro e w1 ⟨rfl, hb1⟩
      have HW1 := hid (HW.out.step hb1)
      clear hb1 HW a0 a1 a2 a3
      have a0 : w1.cell? ⟨G, 0, none⟩ = some (.int .i64 257) := HW1.out.cA 0
      have r0 : w1.cell? ⟨G + 1, 0, none⟩ = some (.int .i64 0) := HW1.out.cR 0
      have r1 : w1.cell? ⟨G + 1, 1, none⟩ = some (.int .i64 0) := HW1.out.cR 1
      have r2 : w1.cell? ⟨G + 1, 2, none⟩ = some (.int .i64 0) := HW1.out.cR 2
      have f0 : w1.frozen? ⟨G + 1, 0, none⟩ = false := HW1.out.fR 0
      have f1 : w1.frozen? ⟨G + 1, 1, none⟩ = false := HW1.out.fR 1
      have f2 : w1.frozen? ⟨G + 1, 2, none⟩ = false := HW1.out.fR 2
      have HY := hid (show IsSign 3 4 28 257 n (257 + (p : Int)) (wide 4 p : Int) (n - (beg 3 4 p : Int)) true ∨ ¬ ((beg 3 4 p : Int) ≤ n ∧ n < (beg 3 4 (p + 1) : Int)) from by
        by_cases hc : (beg 3 4 p : Int) ≤ n ∧ n < (beg 3 4 (p + 1) : Int)
        · exact .inl (.inl ⟨p, ⟨hlt, hc.1, hc.2⟩, rfl, rfl, rfl, rfl⟩)
        · exact .inr hc)
      have HN := hid (wrap_next _ _ _ HB.out (by omega) (by omega))
      generalize wide 4 p = y at HB hwd HN HY ⊢
      generalize beg 3 4 p = z at HB HL hb2 HN HY ⊢
      generalize hq : beg 3 4 (p + 1) = q at HB HN HY
      have HQ := hid hq
      clear hq
      have hp8 : (p : Int) ≤ 28 := by omega
      go_wp2_with fail
      · have h1 : (z : Int) ≤ n := by assumption
        have h2 : n < wrap64 ((z : Int) + wrap64 (2 ^ y)) := by assumption
        rw [HN.out] at h2
        have HF := hid (HW1.out.set3 (.int .i64 (257 + (p : Int))) (.int .i64 (y : Int)) (.int .i64 (n - (z : Int))))
        generalize ((w1.setCell ⟨G + 1, 0, none⟩ (.int .i64 (257 + (p : Int)))).setCell ⟨G + 1, 1, none⟩ (.int .i64 (y : Int))).setCell ⟨G + 1, 2, none⟩ (.int .i64 (n - (z : Int))) = W9 at HF ⊢
        have g0 : W9.cell? ⟨G + 1, 0, none⟩ = some (.int .i64 (257 + (p : Int))) := HF.out.cR 0
        have g1 : W9.cell? ⟨G + 1, 1, none⟩ = some (.int .i64 (y : Int)) := HF.out.cR 1
        have g2 : W9.cell? ⟨G + 1, 2, none⟩ = some (.int .i64 (n - (z : Int))) := HF.out.cR 2
        refine bodyPost_ret (v := .tuple #[.agg #[.int .i64 (257 + (p : Int)), .int .i64 (y : Int), .int .i64 (n - (z : Int))], .bool true]) (by simp [results, Try.results105, go_sem, g0, g1, g2]) rfl ?_
        refine ⟨?_, HF.out.below⟩
        rcases HY.out with h | h
        · exact sign_val HS.out h
        · exact absurd ⟨h1, h2⟩ h
      · have h2 : wrap64 ((z : Int) + wrap64 (2 ^ y)) ≤ n := by assumption
        rw [HN.out] at h2
        go_roundw
        case rel => exact ⟨p + 1, by omega, by go_num, val_int (by rw [HN.out, HQ.out]), by rw [HQ.out]; exact .inr h2, HW1.out⟩
        case measure => simp [intOf]; omega
      · have h2 : ¬ (z : Int) ≤ n := by assumption
        go_roundw
        case rel => exact ⟨p + 1, by omega, by go_num, val_int (by rw [HN.out, HQ.out]), .inl (by have := HL.out; omega), HW1.out⟩
        case measure => simp [intOf]; omega
    · obtain rfl : p = 28 := by omega
      have r0 : wr.cell? ⟨G + 1, 0, none⟩ = some (.int .i64 0) := htwo.cR 0
      have r1 : wr.cell? ⟨G + 1, 1, none⟩ = some (.int .i64 0) := htwo.cR 1
      have r2 : wr.cell? ⟨G + 1, 2, none⟩ = some (.int .i64 0) := htwo.cR 2
      have f0 : wr.frozen? ⟨G + 1, 0, none⟩ = false := htwo.fR 0
      have f1 : wr.frozen? ⟨G + 1, 1, none⟩ = false := htwo.fR 1
      have f2 : wr.frozen? ⟨G + 1, 2, none⟩ = false := htwo.fR 2
      clear htwo
      go_wp2_with fail
      have HF := hid (HW.out.set3 (.int .i64 0) (.int .i64 0) (.int .i64 0))
      generalize ((wr.setCell ⟨G + 1, 0, none⟩ (.int .i64 0)).setCell ⟨G + 1, 1, none⟩ (.int .i64 0)).setCell ⟨G + 1, 2, none⟩ (.int .i64 0) = W9 at HF ⊢
      have g0 : W9.cell? ⟨G + 1, 0, none⟩ = some (.int .i64 0) := HF.out.cR 0
      have g1 : W9.cell? ⟨G + 1, 1, none⟩ = some (.int .i64 0) := HF.out.cR 1
      have g2 : W9.cell? ⟨G + 1, 2, none⟩ = some (.int .i64 0) := HF.out.cR 2
      refine bodyPost_ret (v := .tuple #[.agg #[.int .i64 0, .int .i64 0, .int .i64 0], .bool false]) (by simp [results, Try.results105, go_sem, g0, g1, g2]) rfl ?_
      exact ⟨sign_val HS.out (.inr ⟨HL.out, rfl, rfl, rfl, rfl⟩), HF.out.below⟩
set_option maxRecDepth 100000 in
set_option maxHeartbeats 1000000 in
theorem rowSign2 (n c k m : Int) (ok : Bool) (w : World) (h : IsSign 1 2 30 0 n c k m ok) (hn0 : -9223372036854775808 ≤ n) (hn1 : n ≤ 9223372036854775807) :
    Calls Try.prog 105 #[rowV 0 30 1 2, .int .i64 n] w fun e w' => e = .returned (.tuple #[.agg #[.int .i64 c, .int .i64 k, .int .i64 m], .bool ok]) ∧ Below w.heap.size w w' := by
  have HS := hid h; clear h
  go_enter Try.func105, Try.ntmps105
  go_wp2_with fail
  have HT := hid (two_new w #[.int .i64 0, .int .i64 30, .int .i64 1, .int .i64 2] #[.int .i64 0, .int .i64 0, .int .i64 0] 118 121)
  generalize (w.alloc (.cells #[.int .i64 0, .int .i64 30, .int .i64 1, .int .i64 2] 118)).alloc (.cells #[.int .i64 0, .int .i64 0, .int .i64 0] 121) = W0 at HT ⊢
  generalize w.heap.size = G at HT ⊢
  go_loopw [6, 13] (fun bg i wr => ∃ p : Nat, p ≤ 30 ∧ i = .int .i64 p ∧ bg = .int .i64 (beg 1 2 p : Nat) ∧ (n < 1 ∨ (beg 1 2 p : Int) ≤ n) ∧ Two w wr G #[.int .i64 0, .int .i64 30, .int .i64 1, .int .i64 2] #[.int .i64 0, .int .i64 0, .int .i64 0] 118 121) (fun _ i _ => 30 - (intOf i).toNat)
  case atStart => exact ⟨0, by omega, rfl, rfl, by have e : beg 1 2 0 = 1 := rfl; rw [e]; omega, HT.out⟩
  case round =>
    obtain ⟨p, hp, rfl, rfl, hlo, htwo⟩ := hrel
    have HW := hid htwo
    have HL := hid hlo
    have HB := hid (beg_succ 1 2 p)
    have hb2 := beg2_le p hp
    clear hlo HT
    by_cases hlt : p < 30
    · have a0 : wr.cell? ⟨G, 0, none⟩ = some (.int .i64 0) := htwo.cA 0
      have a1 : wr.cell? ⟨G, 1, none⟩ = some (.int .i64 30) := htwo.cA 1
      have a2 : wr.cell? ⟨G, 2, none⟩ = some (.int .i64 1) := htwo.cA 2
      have a3 : wr.cell? ⟨G, 3, none⟩ = some (.int .i64 2) := htwo.cA 3
      clear htwo
      have hwd := wide2_le p hp
      go_wp2_with fail
      refine (rowBits2 _ _ _ p _ (by omega)).mono ?_
      rintro e w1 ⟨rfl, hb1⟩
      have HW1 := hid (HW.out.step hb1)
      clear hb1 HW a0 a1 a2 a3
      have a0 : w1.cell? ⟨G, 0, none⟩ = some (.int .i64 0) := HW1.out.cA 0
      have r0 : w1.cell? ⟨G + 1, 0, none⟩ = some (.int .i64 0) := HW1.out.cR 0
      have r1 : w1.cell? ⟨G + 1, 1, none⟩ = some (.int .i64 0) := HW1.out.cR 1
      have r2 : w1.cell? ⟨G + 1, 2, none⟩ = some (.int .i64 0) := HW1.out.cR 2
      have f0 : w1.frozen? ⟨G + 1, 0, none⟩ = false := HW1.out.fR 0
      have f1 : w1.frozen? ⟨G + 1, 1, none⟩ = false := HW1.out.fR 1
      have f2 : w1.frozen? ⟨G + 1, 2, none⟩ = false := HW1.out.fR 2
      have HY := hid (show IsSign 1 2 30 0 n (0 + (p : Int)) (wide 2 p : Int) (n - (beg 1 2 p : Int)) true ∨ ¬ ((beg 1 2 p : Int) ≤ n ∧ n < (beg 1 2 (p + 1) : Int)) from by
        by_cases hc : (beg 1 2 p : Int) ≤ n ∧ n < (beg 1 2 (p + 1) : Int)
        · exact .inl (.inl ⟨p, ⟨hlt, hc.1, hc.2⟩, rfl, rfl, rfl, rfl⟩)
        · exact .inr hc)
      have HN := hid (wrap_next _ _ _ HB.out (by omega) (by omega))
      generalize wide 2 p = y at HB hwd HN HY ⊢
      generalize beg 1 2 p = z at HB HL hb2 HN HY ⊢
      generalize hq : beg 1 2 (p + 1) = q at HB HN HY
      have HQ := hid hq
      clear hq
      have hp8 : (p : Int) ≤ 30 := by omega
      go_wp2_with fail
      · have h1 : (z : Int) ≤ n := by assumption
        have h2 : n < wrap64 ((z : Int) + wrap64 (2 ^ y)) := by assumption
        rw [HN.out] at h2
        have HF := hid (HW1.out.set3 (.int .i64 (p : Int)) (.int .i64 (y : Int)) (.int .i64 (n - (z : Int))))
        generalize ((w1.setCell ⟨G + 1, 0, none⟩ (.int .i64 (p : Int))).setCell ⟨G + 1, 1, none⟩ (.int .i64 (y : Int))).setCell ⟨G + 1, 2, none⟩ (.int .i64 (n - (z : Int))) = W9 at HF ⊢
        have g0 : W9.cell? ⟨G + 1, 0, none⟩ = some (.int .i64 (p : Int)) := HF.out.cR 0
        have g1 : W9.cell? ⟨G + 1, 1, none⟩ = some (.int .i64 (y : Int)) := HF.out.cR 1
        have g2 : W9.cell? ⟨G + 1, 2, none⟩ = some (.int .i64 (n - (z : Int))) := HF.out.cR 2
        refine bodyPost_ret (v := .tuple #[.agg #[.int .i64 (p : Int), .int .i64 (y : Int), .int .i64 (n - (z : Int))], .bool true]) (by simp [results, Try.results105, go_sem, g0, g1, g2]) rfl ?_
        refine ⟨?_, HF.out.below⟩
        rcases HY.out with h | h
        · exact sign_val HS.out (by have h3 := h; rw [Int.zero_add] at h3; exact h3)
        · exact absurd ⟨h1, h2⟩ h
      · have h2 : wrap64 ((z : Int) + wrap64 (2 ^ y)) ≤ n := by assumption
        rw [HN.out] at h2
        go_roundw
        case rel => exact ⟨p + 1, by omega, by go_num, val_int (by rw [HN.out, HQ.out]), by rw [HQ.out]; exact .inr h2, HW1.out⟩
        case measure => simp [intOf]; omega
      · have h2 : ¬ (z : Int) ≤ n := by assumption
        go_roundw
        case rel => exact ⟨p + 1, by omega, by go_num, val_int (by rw [HN.out, HQ.out]), .inl (by have := HL.out; omega), HW1.out⟩
        case measure => simp [intOf]; omega
    · obtain rfl : p = 30 := by omega
      have r0 : wr.cell? ⟨G + 1, 0, none⟩ = some (.int .i64 0) := htwo.cR 0
      have r1 : wr.cell? ⟨G + 1, 1, none⟩ = some (.int .i64 0) := htwo.cR 1
      have r2 : wr.cell? ⟨G + 1, 2, none⟩ = some (.int .i64 0) := htwo.cR 2
      have f0 : wr.frozen? ⟨G + 1, 0, none⟩ = false := htwo.fR 0
      have f1 : wr.frozen? ⟨G + 1, 1, none⟩ = false := htwo.fR 1
      have f2 : wr.frozen? ⟨G + 1, 2, none⟩ = false := htwo.fR 2
      clear htwo
      go_wp2_with fail
      have HF := hid (HW.out.set3 (.int .i64 0) (.int .i64 0) (.int .i64 0))
      generalize ((wr.setCell ⟨G + 1, 0, none⟩ (.int .i64 0)).setCell ⟨G + 1, 1, none⟩ (.int .i64 0)).setCell ⟨G + 1, 2, none⟩ (.int .i64 0) = W9 at HF ⊢
      have g0 : W9.cell? ⟨G + 1, 0, none⟩ = some (.int .i64 0) := HF.out.cR 0
      have g1 : W9.cell? ⟨G + 1, 1, none⟩ = some (.int .i64 0) := HF.out.cR 1
      have g2 : W9.cell? ⟨G + 1, 2, none⟩ = some (.int .i64 0) := HF.out.cR 2
      refine bodyPost_ret (v := .tuple #[.agg #[.int .i64 0, .int .i64 0, .int .i64 0], .bool false]) (by simp [results, Try.results105, go_sem, g0, g1, g2]) rfl ?_
      exact ⟨sign_val HS.out (.inr ⟨HL.out, rfl, rfl, rfl, rfl⟩), HF.out.below⟩

end Sg
end Go.Proofs.Ytlfohihmkfphhaa
