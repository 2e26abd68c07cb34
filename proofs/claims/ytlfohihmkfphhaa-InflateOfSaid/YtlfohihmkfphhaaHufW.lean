/- WALKS over codes of unlike lengths: 32 bits the other way round. -/
import Derived.Test.YtlfohihmkfphhaaProg
import Derived.Test.YtlfohihmkfphhaaHufM
import Derived.WalkKit
import Derived.WalkSpells
import Derived.WalkLawsBesides
import Derived.Handy
import Derived.Below
import Derived.Outline
import Derived.Laws.BitsAllLaws
import Derived.Laws.Rows
import Derived.Deep.DeepCutAuto
import Derived.Deep.CutBlock
import Derived.StillTailTactics
import Derived.Deep.QuietTactic
import Derived.BigQuiet
namespace Go.Proofs.Ytlfohihmkfphhaa
set_option linter.unusedVariables false
open Go.RowKit
open Go.Proofs.Huf
namespace Huff

theorem hid {p : Prop} (h : p) : Hid p := h
theorem val_int {k : IntKind} {a b : Int} (h : a = b) : Value.int k a = .int k b := by rw [h]
theorem ret_int {k : IntKind} {a b : Int} (h : a = b) : Ending.returned (.int k a) = .returned (.int k b) := by rw [h]

theorem swp_int (s p m x : Nat) (hp : 2 ^ s = p) (hx : x < 4294967296) (hm : m < 4294967296) :
    bits .or .u32 (bits .and .u32 ((x : Int) / (p : Int)) (m : Int)) (bits .and .u32 (x : Int) (m : Int) * (p : Int) % 4294967296) = ((swp s m x : Nat) : Int) := by
  have e1 : ((x : Int) / (p : Int)) = ((x / p : Nat) : Int) := by simp
  have hd : x / p < 4294967296 := Nat.lt_of_le_of_lt (Nat.div_le_self _ _) hx
  rw [e1, u32_and_nat _ _ hd hm, u32_and_nat _ _ hx hm]
  have e2 : (((x &&& m : Nat) : Int) * (p : Int) % 4294967296) = (((x &&& m) * p % 4294967296 : Nat) : Int) := by simp
  rw [e2, u32_or_nat _ _ (Nat.and_lt_two_pow (n := 32) _ hm) (Nat.mod_lt _ (by decide))]
  subst hp
  rfl
theorem swp16_int (x : Nat) (hx : x < 4294967296) : bits .or .u32 ((x : Int) / 65536) ((x : Int) * 65536 % 4294967296) = ((swp16 x : Nat) : Int) := by
  have e1 : ((x : Int) / 65536) = ((x / 65536 : Nat) : Int) := by omega
  have e2 : ((x : Int) * 65536 % 4294967296) = ((x * 65536 % 4294967296 : Nat) : Int) := by omega
  rw [e1, e2, u32_or_nat _ _ (by omega) (by omega)]
  rfl

/-- How many bits a code has, as it is looked at. -/
def longN (n : Int) : Nat := (min (max n 0) 32).toNat
theorem longN_le (n : Int) : longN n ≤ 32 := by unfold longN; omega
theorem turned_int (x : Nat) (n : Int) : ((rev x : Nat) : Int) / 2 ^ (32 - longN n) = ((turn x (longN n) : Nat) : Int) := by
  rw [← turn_rev x (longN n) (longN_le n)]
  simp

/-! ### Rows of values -/
def rowV (f : Nat → Value) (n : Nat) : Array Value := ((List.range n).map f).toArray
theorem rowV_size (f : Nat → Value) (n : Nat) : (rowV f n).size = n := by unfold rowV; simp
theorem rowV_at (f : Nat → Value) (n i : Nat) (h : i < n) : (rowV f n)[i]? = some (f i) := by
  unfold rowV
  simp [h]
theorem rowV_ext {a : Array Value} {f : Nat → Value} {n : Nat} (hs : a.size = n) (h : ∀ i, i < n → a[i]? = some (f i)) : a = rowV f n := by
  apply Array.ext_getElem?
  intro j
  by_cases hj : j < n
  · rw [h j hj, rowV_at f n j hj]
  · rw [Array.getElem?_eq_none (by omega), Array.getElem?_eq_none (by rw [rowV_size]; omega)]
theorem rowV_set (f : Nat → Value) (n j : Nat) (v : Value) : (rowV f n).setIfInBounds j v = rowV (fun i => if i = j then v else f i) n := by
  apply rowV_ext (by simp [rowV_size])
  intro i hi
  rw [Array.getElem?_setIfInBounds]
  by_cases e : j = i
  · subst e
    simp [rowV_size, hi]
  · rw [if_neg e, rowV_at f n i hi, if_neg (fun h => e h.symm)]
theorem rowV_congr {f g : Nat → Value} {n : Nat} (h : ∀ i, i < n → f i = g i) : rowV f n = rowV g n :=
  rowV_ext (rowV_size f n) (fun i hi => by rw [rowV_at f n i hi, h i hi])
theorem rowV_one (f : Nat → Value) (n : Nat) (h : ∀ i, i < n → (f i).oneCell' = true) : (rowV f n).all (·.oneCell') = true := by
  rw [Array.all_eq_true_iff_forall_mem]
  intro x hx
  unfold rowV at hx
  simp at hx
  obtain ⟨j, hj, rfl⟩ := hx
  exact h j hj

theorem results_cell_tmp {P : Program} {fn : Func} {p q : Tmp} {ty : TypeId} (h : fn.results = #[.cell p ty, .tmp q]) (tmps : Array Value) (w : World) (g : Nat) (t : TypeId) (cs : Array Value) (fr : Nat × Nat) (d : TypeDesc)
    (hp : tmps.getD p undef = .pointer (some ⟨g, 0, none⟩)) (v : Value) (hq : tmps.getD q undef = v) (hg : w.heap[g]? = some (.cells cs t fr))
    (hu : P.underlying ty = some d) (hd : (match d with | .struct _ | .array _ _ => true | _ => false) = true) (hi : (P.info? ty).map (·.size) = some cs.size) :
    (results fn tmps).run P w = .ok (.tuple #[.agg cs, v]) w := by
  have hp' : tmps[p]?.getD undef = .pointer (some ⟨g, 0, none⟩) := by simpa using hp
  have hq' : tmps[q]?.getD undef = v := by simpa using hq
  simp [results, h, hp', hq', asAddr, run_loadVar_row w g t ty cs fr d hg hu hd hi]

/-- Numbers that lie in a row. -/
structure Ints (W : World) (b off len : Nat) (x : Nat → Int) : Prop where
  lt : 0 < len → b < W.heap.size
  at_ : ∀ i, i < len → W.cell? ⟨b, off + i, none⟩ = some (.int .i64 (x i))
theorem Ints.below {W W' : World} {b off len : Nat} {x : Nat → Int} (h : Ints W b off len x) (hb : Below W.heap.size W W') : Ints W' b off len x :=
  ⟨fun hl => Nat.lt_of_lt_of_le (h.lt hl) hb.size, fun i hi => (hb.cell (p := ⟨b, off + i, none⟩) (h.lt (by omega))).trans (h.at_ i hi)⟩

/-- Such as lengths may be. -/
def Fine (len : Nat) (x : Nat → Int) : Prop := len ≤ 300 ∧ ∀ i, i < len → 0 ≤ x i ∧ x i ≤ 15
/-- The lengths. -/
def natOf (x : Nat → Int) (i : Nat) : Nat := (x i).toNat

theorem und97 : Try.prog.underlying 97 = some (.array 16 3) := by kernel_rfl
theorem size97 : (Try.prog.info? 97).map (·.size) = some 16 := by kernel_rfl
theorem below_setRow {B : Nat} {a w : World} (h : Below B a w) {g : Nat} (hg : B ≤ g) (cs : Array Value) : Below B a (w.setRow g cs) :=
  h.trans ⟨rfl, rfl, rfl, by simp, fun k hk => setRow_other w g k cs (by omega)⟩

/-- How often each length came, as a row. -/
def cntV (g : Nat → Nat) (j : Nat) : Array Value := rowV (fun n => .int .i64 (cT g j n : Nat)) 16

theorem cntV_start (g : Nat → Nat) : cntV g 0 = #[.int .i64 0, .int .i64 0, .int .i64 0, .int .i64 0, .int .i64 0, .int .i64 0, .int .i64 0, .int .i64 0, .int .i64 0, .int .i64 0, .int .i64 0, .int .i64 0, .int .i64 0, .int .i64 0, .int .i64 0, .int .i64 0] := rfl
theorem cntV_at (g : Nat → Nat) (j n : Nat) (h : n < 16) : (cntV g j)[n]? = some (.int .i64 (cT g j n : Nat)) := rowV_at _ _ _ h
theorem cntV_none (g : Nat → Nat) (j : Nat) (h : g j = 0) : cntV g (j + 1) = cntV g j := by
  apply rowV_congr
  intro i hi
  rw [cT_succ, if_neg (by omega)]; rfl
theorem cntV_more (g : Nat → Nat) (j n : Nat) (h : g j = n) (hn : n ≠ 0) : (cntV g j).setIfInBounds n (.int .i64 ((cT g j n : Nat) + 1 : Int)) = cntV g (j + 1) := by
  unfold cntV
  rw [rowV_set]
  apply rowV_congr
  intro i hi
  simp only [cT_succ]
  by_cases e : i = n
  · subst e
    rw [if_pos rfl, if_pos ⟨h, hn⟩]
    exact val_int (by omega)
  · rw [if_neg e, if_neg (fun hh => e (hh.1.symm.trans h))]; rfl
theorem cntV_one (g : Nat → Nat) (j : Nat) : (cntV g j).all (·.oneCell') = true := rowV_one _ _ (fun _ _ => rfl)
theorem cntV_size (g : Nat → Nat) (j : Nat) : (cntV g j).size = 16 := rowV_size _ _

/-- The counts, while they are made. -/
structure Cnt (w W : World) (G : Nat) (z c : Array Value) : Prop where
  res : W.heap[G]? = some (.cells z 97 (0, 0))
  blk : W.heap[G + 1]? = some (.cells c 97 (0, 0))
  below : Below w.heap.size w W
  low : w.heap.size ≤ G
theorem cnt_new (w : World) (z c : Array Value) : Cnt w ((w.alloc (.cells z 97)).alloc (.cells c 97)) w.heap.size z c :=
  ⟨heap_alloc2_old _ _ _, heap_alloc2_new _ _ _, ((Below.refl _ _).alloc (Nat.le_refl _) _).alloc (by simp) _, Nat.le_refl _⟩
theorem Cnt.set {w W : World} {G : Nat} {z c : Array Value} (h : Cnt w W G z c) (n : Nat) (v : Value) : Cnt w (W.setCell ⟨G + 1, n, none⟩ v) G z (c.setIfInBounds n v) :=
  ⟨(Below.heap_setCell _ _ _ _ (by simp)).trans h.res, heap_setCell_same _ _ _ _ _ _ h.blk, h.below.setCell (Nat.le_succ_of_le h.low) v, h.low⟩

set_option maxRecDepth 100000 in
set_option maxHeartbeats 1000000 in
theorem counts_yes (A : Option Addr) (b off len cap : Nat) (x : Nat → Int) (w : World) (hA : 0 < len → A = some ⟨b, off, none⟩) (hx : Ints w b off len x) (hf : Fine len x) :
    Calls Try.prog 76 #[.slice A len cap] w fun e w' => e = .returned (.tuple #[.agg (cntV (natOf x) len), .bool true]) ∧ Below w.heap.size w w' := by
  have HX := hid hx
  have HA := hid hA
  have HF := hid hf.2
  have hlen := hf.1
  clear hx hA hf
  have h300 : decide (300 < (len : Int)) = false := by rw [decide_eq_false_iff_not]; omega
  go_enter Try.func76, Try.ntmps76
  go_wp2_with fail
  have HC := hid (cnt_new w (cntV (natOf x) 0) (cntV (natOf x) 0))
  rw [cntV_start] at HC
  generalize (w.alloc (.cells #[.int .i64 0, .int .i64 0, .int .i64 0, .int .i64 0, .int .i64 0, .int .i64 0, .int .i64 0, .int .i64 0, .int .i64 0, .int .i64 0, .int .i64 0, .int .i64 0, .int .i64 0, .int .i64 0, .int .i64 0, .int .i64 0] 97)).alloc (.cells #[.int .i64 0, .int .i64 0, .int .i64 0, .int .i64 0, .int .i64 0, .int .i64 0, .int .i64 0, .int .i64 0, .int .i64 0, .int .i64 0, .int .i64 0, .int .i64 0, .int .i64 0, .int .i64 0, .int .i64 0, .int .i64 0] 97) = W0 at HC ⊢
  rw [← cntV_start (natOf x)] at HC
  generalize w.heap.size = G at HC ⊢
  go_loopw [13] (fun i wr => ∃ j : Nat, j ≤ len ∧ i = .int .i64 j ∧ Cnt w wr G (cntV (natOf x) 0) (cntV (natOf x) j)) (fun i _ => len - (intOf i).toNat)
  case atStart => exact ⟨0, by omega, rfl, HC.out⟩
  case round =>
    obtain ⟨j, hj, rfl, hc⟩ := hrel
    have HW := hid hc
    clear hc HC
    by_cases hlt : j < len
    · have hA := HA.out (by omega)
      subst hA
      have a0 : wr.cell? ⟨b, off + j, none⟩ = some (.int .i64 (x j)) := (HW.out.below.cell (p := ⟨b, off + j, none⟩) (HX.out.lt (by omega))).trans (HX.out.at_ j hlt)
      obtain ⟨x0, x1⟩ := HF.out j hlt
      have HN := hid (show natOf x j = (x j).toNat from rfl)
      generalize x j = y at a0 x0 x1 HN
      obtain ⟨n, rfl⟩ := Int.eq_ofNat_of_zero_le x0
      by_cases hz : n = 0
      · have HS := hid (cntV_none (natOf x) j (by rw [HN.out]; omega))
        subst hz
        go_wp2_with fail
        go_roundw
        case rel => exact ⟨j + 1, by omega, by go_num, by rw [HS.out]; exact HW.out⟩
        case measure => simp [intOf]; omega
      · have HS := hid (cntV_more (natOf x) j n (by rw [HN.out]; omega) hz)
        have c0 : wr.cell? ⟨G + 1, n, none⟩ = some (.int .i64 (cT (natOf x) j n : Nat)) := by rw [cell_of_row _ _ _ _ _ _ HW.out.blk]; exact cntV_at _ _ _ (by omega)
        have f0 : wr.frozen? ⟨G + 1, n, none⟩ = false := frozen_of_row _ _ _ _ _ HW.out.blk
        have hcl := cT_le (natOf x) n j
        generalize cT (natOf x) j n = q at HS c0 hcl
        go_wp2_with fail
        go_roundw
        case rel => exact ⟨j + 1, by omega, by go_num, by rw [← HS.out]; exact HW.out.set n _⟩
        case measure => simp [intOf]; omega
    · obtain rfl : j = len := by omega
      have h1 := HW.out.blk
      have h2 := HW.out.res
      go_wp2_with (first | (refine wpList_load_row rfl 97 _ rfl (G + 1) rfl 97 (cntV (natOf x) j) (0, 0) (.array 16 3) h1 und97 rfl (by rw [cntV_size]; exact size97) ?_) | (refine wpList_store_row rfl 97 _ _ rfl G (cntV (natOf x) j) rfl rfl 97 (cntV (natOf x) 0) h2 (by rw [cntV_size]; exact size97) (by rw [cntV_size, cntV_size]) (cntV_one _ _) ?_))
      have h3 := setRow_heap wr G (cntV (natOf x) 0) (cntV (natOf x) j) 97 (0, 0) h2
      have hB := below_setRow HW.out.below HW.out.low (cntV (natOf x) j)
      generalize wr.setRow G (cntV (natOf x) j) = W9 at h3 hB ⊢
      exact bodyPost_ret (results_cell_tmp (fn := Try.f76) Try.results76 _ W9 G 97 (cntV (natOf x) j) (0, 0) (.array 16 3) rfl (.bool true) rfl h3 und97 rfl (by rw [cntV_size]; exact size97)) rfl ⟨rfl, hB⟩
end Huff
end Go.Proofs.Ytlfohihmkfphhaa
