/- WALKS: the codes of lengths. -/
import Derived.Test.YthgjijjalfhhcaaHufT
import Derived.Laws.OwnMore
namespace Go.Proofs.Ythgjijjalfhhcaa
set_option linter.unusedVariables false
open Go.RowKit
open Go.Proofs.Huf
namespace Huff

theorem und25 : Try.prog.underlying 25 = some (.slice 23) := by kernel_rfl
theorem info23 : (Try.prog.info? 23).map (fun i => (i.zero, i.size, i.bytes)) = some (some (.int .u32 0), 1, 4) := by kernel_rfl
theorem made_row (z : Value) (n : Nat) : madeCells #[z] n = rowV (fun _ => z) n := by
  apply rowV_ext (size_madeCells _ _)
  intro i hi
  rw [← Array.getElem?_toList, toList_madeCells_one]
  simp [hi]
theorem make_u32 (n : Nat) (hn : n ≤ 300) (w : World) : (Instr.makeSlice 25 (.int .i64 (n : Int)) (.int .i64 (n : Int))).run Try.prog w = .ok (.slice (some ⟨w.heap.size, 0, none⟩) n n) (w.alloc (.cells (rowV (fun _ => .int .u32 0) n) 23)) := by
  obtain ⟨i0, hi, hz0, hz1, hz2⟩ := info_parts info23
  have h := run_make (P := Try.prog) w 25 23 i0 (.int .u32 0) und25 hi hz0 .i64 .i64 n n (by omega) (Int.le_refl _) (by rw [hz2]; omega) (by omega)
  rw [hz1, Int.toNat_natCast, Nat.mul_one] at h
  rw [← made_row]
  exact h

/-- The next code of each length, behind the first j symbols. -/
def nxV (g : Nat → Nat) (N j : Nat) : Array Value := rowV (fun n => .int .u32 ((fT g N n + cT g j n : Nat) : Int)) 16
theorem nxV_start (g : Nat → Nat) (N : Nat) : nxV g N 0 = fV g N 16 := by
  unfold nxV fV
  apply rowV_congr
  intro i hi
  rw [if_pos hi]; rfl
theorem nxV_at (g : Nat → Nat) (N j n : Nat) (h : n < 16) : (nxV g N j)[n]? = some (.int .u32 ((fT g N n + cT g j n : Nat) : Int)) := rowV_at _ _ _ h
theorem nxV_none (g : Nat → Nat) (N j : Nat) (h : g j = 0) : nxV g N (j + 1) = nxV g N j := by
  apply rowV_congr
  intro i hi
  rw [cT_succ, if_neg (by omega)]; rfl
theorem nxV_more (g : Nat → Nat) (N j n : Nat) (h : g j = n) (hn : n ≠ 0) : (nxV g N j).setIfInBounds n (.int .u32 (((fT g N n + cT g j n : Nat) : Int) + 1)) = nxV g N (j + 1) := by
  unfold nxV
  rw [rowV_set]
  apply rowV_congr
  intro i hi
  simp only [cT_succ]
  by_cases e : i = n
  · subst e
    rw [if_pos rfl, if_pos ⟨h, hn⟩]
    exact val_int (by omega)
  · rw [if_neg e, if_neg (fun hh => e (hh.1.symm.trans h))]; rfl
theorem nxV_size (g : Nat → Nat) (N j : Nat) : (nxV g N j).size = 16 := rowV_size _ _
theorem nxV_one (g : Nat → Nat) (N j : Nat) : (nxV g N j).all (·.oneCell') = true := rowV_one _ _ (fun _ _ => rfl)
/-- The codes of the first j symbols. -/
def cdV (g : Nat → Nat) (N j : Nat) : Array Value := rowV (fun i => .int .u32 ((if i < j then codeAt g N i else 0 : Nat) : Int)) N
theorem cdV_start (g : Nat → Nat) (N : Nat) : rowV (fun _ => .int .u32 0) N = cdV g N 0 := rowV_congr (fun i hi => rfl)
theorem cdV_at (g : Nat → Nat) (N j i : Nat) (h : i < N) : (cdV g N j)[i]? = some (.int .u32 ((if i < j then codeAt g N i else 0 : Nat) : Int)) := rowV_at _ _ _ h
theorem cdV_next (g : Nat → Nat) (N j : Nat) : (cdV g N j).setIfInBounds j (.int .u32 (codeAt g N j : Nat)) = cdV g N (j + 1) := by
  unfold cdV
  rw [rowV_set]
  apply rowV_congr
  intro i hi
  by_cases e : i = j
  · subst e
    rw [if_pos rfl, if_pos (Nat.lt_succ_self _)]
  · rw [if_neg e]
    by_cases c : i < j
    · rw [if_pos c, if_pos (by omega)]
    · rw [if_neg c, if_neg (by omega)]
theorem cdV_none (g : Nat → Nat) (N j : Nat) (h : g j = 0) : cdV g N (j + 1) = cdV g N j := by
  apply rowV_congr
  intro i hi
  by_cases e : i = j
  · subst e
    rw [if_pos (Nat.lt_succ_self _), if_neg (Nat.lt_irrefl _), codeAt_zero h]
  · by_cases c : i < j
    · rw [if_pos c, if_pos (by omega)]
    · rw [if_neg c, if_neg (by omega)]

/-- The codes, while they are made. -/
structure Cod (w W : World) (X C : Nat) (a c : Array Value) : Prop where
  nx : W.heap[X]? = some (.cells a 86 (0, 0))
  cd : W.heap[C]? = some (.cells c 23 (0, 0))
  below : Below w.heap.size w W
  low : w.heap.size ≤ X
  lt : X < C
theorem Cod.setX {w W : World} {X C : Nat} {a c : Array Value} (h : Cod w W X C a c) (n : Nat) (v : Value) : Cod w (W.setCell ⟨X, n, none⟩ v) X C (a.setIfInBounds n v) c :=
  ⟨heap_setCell_same _ _ _ _ _ _ h.nx, (Below.heap_setCell _ _ _ _ (by have := h.lt; simp; omega)).trans h.cd, h.below.setCell h.low v, h.low, h.lt⟩
theorem Cod.setC {w W : World} {X C : Nat} {a c : Array Value} (h : Cod w W X C a c) (n : Nat) (v : Value) : Cod w (W.setCell ⟨C, n, none⟩ v) X C a (c.setIfInBounds n v) :=
  ⟨(Below.heap_setCell _ _ _ _ (by have := h.lt; simp; omega)).trans h.nx, heap_setCell_same _ _ _ _ _ _ h.cd, h.below.setCell (by have := h.lt; have := h.low; simp; omega) v, h.low, h.lt⟩

/-- The codes, as they are handed back. -/
def IsCodes (g : Nat → Nat) (N : Nat) (w : World) (e : Ending) (w' : World) : Prop := ∃ C, w.heap.size ≤ C ∧ e = .returned (.slice (some ⟨C, 0, none⟩) N N) ∧ w'.heap[C]? = some (.cells (cdV g N N) 23 (0, 0)) ∧ Below w.heap.size w w'

set_option maxRecDepth 100000 in
set_option maxHeartbeats 1000000 in
theorem codes_yes (A : Option Addr) (b off len cap : Nat) (x : Nat → Int) (w : World) (hA : 0 < len → A = some ⟨b, off, none⟩) (hx : Ints w b off len x) (hf : Fine len x) (hk : kindOf (wT (natOf x) len) ≠ 3) :
    Calls Try.prog 14 #[.slice A len cap] w (IsCodes (natOf x) len w) := by
  have HX := hid hx
  have HA := hid hA
  have HF := hid hf
  have hlen := hf.1
  have hk3 : (((kindOf (wT (natOf x) len) : Nat) : Int) == 3) = false := by simp; omega
  clear hx hA hf hk
  go_enter Try.func14, Try.ntmps14
  go_wp2_with fail
  refine (kind_yes A b off len cap x _ HA.out HX.out HF.out).mono ?_
  rintro e w1 ⟨rfl, hb1⟩
  generalize kindOf (wT (natOf x) len) = kd at hk3 ⊢
  have H1 := hid hb1
  have HX1 := hid (HX.out.below hb1)
  clear hb1
  go_wp2_with fail
  refine (counts_yes A b off len cap x _ HA.out HX1.out HF.out).mono ?_
  rintro e w2 ⟨rfl, hb2⟩
  have H2 := hid (H1.out.trans (hb2.mono H1.out.size))
  clear hb2 H1
  have hz2 := heap_alloc_new w2 (.cells #[.int .i64 0, .int .i64 0, .int .i64 0, .int .i64 0, .int .i64 0, .int .i64 0, .int .i64 0, .int .i64 0, .int .i64 0, .int .i64 0, .int .i64 0, .int .i64 0, .int .i64 0, .int .i64 0, .int .i64 0, .int .i64 0] 83)
  go_upto_region 4 with (refine wpList_store_row rfl 83 _ _ rfl w2.heap.size (cntV (natOf x) len) rfl rfl 83 #[.int .i64 0, .int .i64 0, .int .i64 0, .int .i64 0, .int .i64 0, .int .i64 0, .int .i64 0, .int .i64 0, .int .i64 0, .int .i64 0, .int .i64 0, .int .i64 0, .int .i64 0, .int .i64 0, .int .i64 0, .int .i64 0] hz2 (by rw [cntV_size]; exact size83) (by rw [cntV_size]; rfl) (cntV_one _ _) ?_)
  have H3 := hid (held_new H2.out #[.int .i64 0, .int .i64 0, .int .i64 0, .int .i64 0, .int .i64 0, .int .i64 0, .int .i64 0, .int .i64 0, .int .i64 0, .int .i64 0, .int .i64 0, .int .i64 0, .int .i64 0, .int .i64 0, .int .i64 0, .int .i64 0] (cntV (natOf x) len) 83)
  generalize (w2.alloc (.cells #[.int .i64 0, .int .i64 0, .int .i64 0, .int .i64 0, .int .i64 0, .int .i64 0, .int .i64 0, .int .i64 0, .int .i64 0, .int .i64 0, .int .i64 0, .int .i64 0, .int .i64 0, .int .i64 0, .int .i64 0, .int .i64 0] 83)).setRow w2.heap.size (cntV (natOf x) len) = W2 at H3 ⊢
  generalize w2.heap.size = G at H3 ⊢
  clear hz2 H2 HX1
  have h3 := H3.out.blk
  go_wp2_with (refine wpList_load_row rfl 83 _ rfl G rfl 83 (cntV (natOf x) len) (0, 0) (.array 16 3) h3 und83 rfl (by rw [cntV_size]; exact size83) ?_)
  refine (firsts (natOf x) len _ hlen).mono ?_
  rintro e w3 ⟨rfl, hb3⟩
  have H4 := hid (H3.out.below.trans (hb3.mono H3.out.below.size))
  clear hb3 h3 H3
  have hz3 := heap_alloc_new w3 (.cells #[.int .u32 0, .int .u32 0, .int .u32 0, .int .u32 0, .int .u32 0, .int .u32 0, .int .u32 0, .int .u32 0, .int .u32 0, .int .u32 0, .int .u32 0, .int .u32 0, .int .u32 0, .int .u32 0, .int .u32 0, .int .u32 0] 86)
  go_upto_region 5 with (refine wpList_store_row rfl 86 _ _ rfl w3.heap.size (fV (natOf x) len 16) rfl rfl 86 #[.int .u32 0, .int .u32 0, .int .u32 0, .int .u32 0, .int .u32 0, .int .u32 0, .int .u32 0, .int .u32 0, .int .u32 0, .int .u32 0, .int .u32 0, .int .u32 0, .int .u32 0, .int .u32 0, .int .u32 0, .int .u32 0] hz3 (by rw [fV_size]; exact size86) (by rw [fV_size]; rfl) (fV_one _ _ _) ?_)
  have H5 := hid (held_new H4.out #[.int .u32 0, .int .u32 0, .int .u32 0, .int .u32 0, .int .u32 0, .int .u32 0, .int .u32 0, .int .u32 0, .int .u32 0, .int .u32 0, .int .u32 0, .int .u32 0, .int .u32 0, .int .u32 0, .int .u32 0, .int .u32 0] (fV (natOf x) len 16) 86)
  generalize (w3.alloc (.cells #[.int .u32 0, .int .u32 0, .int .u32 0, .int .u32 0, .int .u32 0, .int .u32 0, .int .u32 0, .int .u32 0, .int .u32 0, .int .u32 0, .int .u32 0, .int .u32 0, .int .u32 0, .int .u32 0, .int .u32 0, .int .u32 0] 86)).setRow w3.heap.size (fV (natOf x) len 16) = W3 at H5 ⊢
  generalize w3.heap.size = X at H5 ⊢
  clear hz3 H4
  have hmk := make_u32 len hlen W3
  go_wp2_with fail
  have HC := hid (show Cod w (W3.alloc (.cells (rowV (fun _ => .int .u32 0) len) 23)) X W3.heap.size (nxV (natOf x) len 0) (cdV (natOf x) len 0) from
    ⟨by rw [Below.heap_alloc _ _ _ H5.out.lt, nxV_start]; exact H5.out.blk, by rw [← cdV_start]; exact heap_alloc_new _ _, H5.out.below.alloc H5.out.below.size _, H5.out.low, H5.out.lt⟩)
  generalize W3.alloc (.cells (rowV (fun _ => .int .u32 0) len) 23) = W4 at HC ⊢
  generalize W3.heap.size = C at HC ⊢
  clear H5 hmk
  go_loopw [24] (fun i wr => ∃ j : Nat, j ≤ len ∧ i = .int .i64 j ∧ Cod w wr X C (nxV (natOf x) len j) (cdV (natOf x) len j)) (fun i _ => len - (intOf i).toNat)
  case atStart => exact ⟨0, by omega, rfl, HC.out⟩
  case round =>
    obtain ⟨j, hj, rfl, hc⟩ := hrel
    have HW := hid hc
    clear hc HC
    by_cases hlt : j < len
    · have hA := HA.out (by omega)
      subst hA
      have a0 : wr.cell? ⟨b, off + j, none⟩ = some (.int .i64 (x j)) := (HW.out.below.cell (p := ⟨b, off + j, none⟩) (HX.out.lt (by omega))).trans (HX.out.at_ j hlt)
      obtain ⟨x0, x1⟩ := HF.out.2 j hlt
      have HN := hid (show natOf x j = (x j).toNat from rfl)
      generalize x j = y at a0 x0 x1 HN
      obtain ⟨n, rfl⟩ := Int.eq_ofNat_of_zero_le x0
      by_cases hz : n = 0
      · have HS := hid (nxV_none (natOf x) len j (by rw [HN.out]; omega))
        have HS2 := hid (cdV_none (natOf x) len j (by rw [HN.out]; omega))
        subst hz
        go_wp2_with fail
        go_roundw
        case rel => exact ⟨j + 1, by omega, by go_num, by rw [HS.out, HS2.out]; exact HW.out⟩
        case measure => simp [intOf]; omega
      · have hgn : natOf x j = n := by rw [HN.out]; omega
        have HS := hid (nxV_more (natOf x) len j n hgn hz)
        have HS2 := hid (cdV_next (natOf x) len j)
        have HCA := hid (show codeAt (natOf x) len j = fT (natOf x) len n + cT (natOf x) j n from by rw [codeAt_pos (by rw [hgn]; exact hz), hgn])
        have c0 : wr.cell? ⟨X, n, none⟩ = some (.int .u32 ((fT (natOf x) len n + cT (natOf x) j n : Nat) : Int)) := by rw [cell_of_row _ _ _ _ _ _ HW.out.nx]; exact nxV_at _ _ _ _ (by omega)
        have hbd := fT_bd (natOf x) len n j hlen (by omega) hj
        have HR := hid (nxV_at (natOf x) len j n (by omega))
        clear hgn
        generalize fT (natOf x) len n + cT (natOf x) j n = q at HS HCA c0 hbd HR
        have hq : (q : Int) ≤ 9830400 := by omega
        have f0 : wr.frozen? ⟨X, n, none⟩ = false := frozen_of_row _ _ _ _ _ HW.out.nx
        have d0 : ∃ v, wr.cell? ⟨C, j, none⟩ = some v := ⟨_, by rw [cell_of_row _ _ _ _ _ _ HW.out.cd]; exact cdV_at _ _ _ _ hlt⟩
        obtain ⟨v0, d0⟩ := d0
        have g0 : wr.frozen? ⟨C, j, none⟩ = false := frozen_of_row _ _ _ _ _ HW.out.cd
        have hXC : X ≠ C := by have := HW.out.lt; omega
        have hCX : C ≠ X := hXC.symm
        have n16 : n < 16 := by omega
        have n16i : (n : Int) < 16 := by omega
        clear hbd
        go_upto_region 11 with fail
        have HE := hid (HW.out.setC j (.int .u32 (q : Int)))
        rw [show (cdV (natOf x) len j).setIfInBounds j (.int .u32 (q : Int)) = cdV (natOf x) len (j + 1) from by rw [← HCA.out]; exact HS2.out] at HE
        generalize wr.setCell ⟨C, j, none⟩ (.int .u32 (q : Int)) = W5 at HE ⊢
        clear c0 f0 d0 g0 a0
        have c0 : W5.cell? ⟨X, n, none⟩ = some (.int .u32 (q : Int)) := by
          have h : W5.cell? ⟨X, n, none⟩ = (nxV (natOf x) len j)[n]? := cell_of_row _ _ _ _ _ _ HE.out.nx
          exact h.trans HR.out
        have f0 : W5.frozen? ⟨X, n, none⟩ = false := frozen_of_row _ _ _ _ _ HE.out.nx
        go_wp2_with fail
        go_roundw
        case rel => exact ⟨j + 1, by omega, by go_num, by rw [← HS.out]; exact HE.out.setX n _⟩
        case measure => simp [intOf]; omega
    · obtain rfl : j = len := by omega
      go_wp2_with fail
      go_ret
      exact ⟨C, by have := HW.out.low; have := HW.out.lt; omega, rfl, HW.out.cd, HW.out.below⟩
set_option maxRecDepth 100000 in
set_option maxHeartbeats 1000000 in
theorem codes_over (A : Option Addr) (b off len cap : Nat) (x : Nat → Int) (w : World) (hA : 0 < len → A = some ⟨b, off, none⟩) (hx : Ints w b off len x) (hf : Fine len x) (hk : kindOf (wT (natOf x) len) = 3) :
    Calls Try.prog 14 #[.slice A len cap] w fun e w' => e = .returned (.slice none 0 0) ∧ Below w.heap.size w w' := by
  have HX := hid hx
  have HA := hid hA
  have HF := hid hf
  have hk3 : (((kindOf (wT (natOf x) len) : Nat) : Int) == 3) = true := by simp; omega
  clear hx hA hf hk
  go_enter Try.func14, Try.ntmps14
  go_wp2_with fail
  refine (kind_yes A b off len cap x _ HA.out HX.out HF.out).mono ?_
  rintro e w1 ⟨rfl, hb1⟩
  generalize kindOf (wT (natOf x) len) = kd at hk3 ⊢
  have H1 := hid hb1
  clear hb1
  go_wp2_with fail
  go_ret
  exact ⟨rfl, H1.out⟩

set_option maxRecDepth 100000 in
set_option maxHeartbeats 1000000 in
theorem codes_bad (A : Option Addr) (b off len cap : Nat) (x : Nat → Int) (w : World) (hA : 0 < len → A = some ⟨b, off, none⟩) (hx : Ints w b off len x) (hm : len ≤ 9223372036854775807) (hf : ¬ Fine len x) :
    Calls Try.prog 14 #[.slice A len cap] w fun e w' => e = .returned (.slice none 0 0) ∧ Below w.heap.size w w' := by
  have HX := hid hx
  have HA := hid hA
  have HF := hid hf
  clear hx hA hf
  go_enter Try.func14, Try.ntmps14
  go_wp2_with fail
  refine (kind_no A b off len cap x _ HA.out HX.out hm HF.out).mono ?_
  rintro e w1 ⟨rfl, hb1⟩
  have H1 := hid hb1
  clear hb1
  go_wp2_with fail
  go_ret
  exact ⟨rfl, H1.out⟩
end Huff
end Go.Proofs.Ythgjijjalfhhcaa
