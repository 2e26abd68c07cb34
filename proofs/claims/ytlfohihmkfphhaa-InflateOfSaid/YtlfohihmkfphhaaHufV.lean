/- WALKS over codes of unlike lengths: lengths that may not be; of which kind lengths are. -/
import Derived.Test.YtlfohihmkfphhaaHufW
namespace Go.Proofs.Ytlfohihmkfphhaa
set_option linter.unusedVariables false
open Go.RowKit
open Go.Proofs.Huf
namespace Huff

set_option maxRecDepth 100000 in
set_option maxHeartbeats 1000000 in
theorem counts_long (A : Option Addr) (len cap : Nat) (w : World) (hl : 300 < len) (hm : len ≤ 9223372036854775807) :
    Calls Try.prog 76 #[.slice A len cap] w fun e w' => e = .returned (.tuple #[.agg (cntV (natOf fun _ => 0) 0), .bool false]) ∧ Below w.heap.size w w' := by
  have h300 : decide (300 < (len : Int)) = true := by rw [decide_eq_true_iff]; omega
  go_enter Try.func76, Try.ntmps76
  go_upto_region 3 with fail
  have HC := hid (cnt_new w (cntV (natOf fun _ => 0) 0) (cntV (natOf fun _ => 0) 0))
  rw [cntV_start] at HC
  generalize (w.alloc (.cells #[.int .i64 0, .int .i64 0, .int .i64 0, .int .i64 0, .int .i64 0, .int .i64 0, .int .i64 0, .int .i64 0, .int .i64 0, .int .i64 0, .int .i64 0, .int .i64 0, .int .i64 0, .int .i64 0, .int .i64 0, .int .i64 0] 97)).alloc (.cells #[.int .i64 0, .int .i64 0, .int .i64 0, .int .i64 0, .int .i64 0, .int .i64 0, .int .i64 0, .int .i64 0, .int .i64 0, .int .i64 0, .int .i64 0, .int .i64 0, .int .i64 0, .int .i64 0, .int .i64 0, .int .i64 0] 97) = W0 at HC ⊢
  rw [← cntV_start (natOf fun _ => 0)] at HC
  generalize w.heap.size = G at HC ⊢
  have h1 := HC.out.blk
  have h2 := HC.out.res
  go_wp2_with (first | (refine wpList_load_row rfl 97 _ rfl (G + 1) rfl 97 (cntV (natOf fun _ => 0) 0) (0, 0) (.array 16 3) h1 und97 rfl (by rw [cntV_size]; exact size97) ?_) | (refine wpList_store_row rfl 97 _ _ rfl G (cntV (natOf fun _ => 0) 0) rfl rfl 97 (cntV (natOf fun _ => 0) 0) h2 (by rw [cntV_size]; exact size97) (by rw [cntV_size]) (cntV_one _ _) ?_))
  have h3 := setRow_heap W0 G (cntV (natOf fun _ => 0) 0) (cntV (natOf fun _ => 0) 0) 97 (0, 0) h2
  have hB := below_setRow HC.out.below HC.out.low (cntV (natOf fun _ => 0) 0)
  generalize W0.setRow G (cntV (natOf fun _ => 0) 0) = W9 at h3 hB ⊢
  exact bodyPost_ret (results_cell_tmp (fn := Try.f76) Try.results76 _ W9 G 97 (cntV (natOf fun _ => 0) 0) (0, 0) (.array 16 3) rfl (.bool false) rfl h3 und97 rfl (by rw [cntV_size]; exact size97)) rfl ⟨rfl, hB⟩

/-- All below j are such as lengths may be. -/
def FineTo (x : Nat → Int) (j : Nat) : Prop := ∀ i, i < j → 0 ≤ x i ∧ x i ≤ 15

/-- Two results, of which the first is a row of 16. -/
def NoRow (w : World) (e : Ending) (w' : World) : Prop := ∃ z : Array Value, z.size = 16 ∧ z.all (·.oneCell') = true ∧ e = .returned (.tuple #[.agg z, .bool false]) ∧ Below w.heap.size w w'
theorem cells16 (z : Array Value) (h : z.size = 16) : ∃ z0 z1 z2 z3 z4 z5 z6 z7 z8 z9 za zb zc zd ze zf, z = #[z0, z1, z2, z3, z4, z5, z6, z7, z8, z9, za, zb, zc, zd, ze, zf] := by
  obtain ⟨l⟩ := z
  match l, h with
  | [z0, z1, z2, z3, z4, z5, z6, z7, z8, z9, za, zb, zc, zd, ze, zf], _ => exact ⟨z0, z1, z2, z3, z4, z5, z6, z7, z8, z9, za, zb, zc, zd, ze, zf, rfl⟩

set_option maxRecDepth 100000 in
set_option maxHeartbeats 1000000 in
theorem counts_no (A : Option Addr) (b off len cap : Nat) (x : Nat → Int) (w : World) (hA : 0 < len → A = some ⟨b, off, none⟩) (hx : Ints w b off len x) (hlen : len ≤ 300) (hf : ¬ FineTo x len) :
    Calls Try.prog 76 #[.slice A len cap] w (NoRow w) := by
  have HX := hid hx
  have HA := hid hA
  have HF := hid hf
  clear hx hA hf
  have h300 : decide (300 < (len : Int)) = false := by rw [decide_eq_false_iff_not]; omega
  go_enter Try.func76, Try.ntmps76
  go_wp2_with fail
  have HC := hid (cnt_new w (cntV (natOf x) 0) (cntV (natOf x) 0))
  rw [cntV_start] at HC
  generalize (w.alloc (.cells #[.int .i64 0, .int .i64 0, .int .i64 0, .int .i64 0, .int .i64 0, .int .i64 0, .int .i64 0, .int .i64 0, .int .i64 0, .int .i64 0, .int .i64 0, .int .i64 0, .int .i64 0, .int .i64 0, .int .i64 0, .int .i64 0] 97)).alloc (.cells #[.int .i64 0, .int .i64 0, .int .i64 0, .int .i64 0, .int .i64 0, .int .i64 0, .int .i64 0, .int .i64 0, .int .i64 0, .int .i64 0, .int .i64 0, .int .i64 0, .int .i64 0, .int .i64 0, .int .i64 0, .int .i64 0] 97) = W0 at HC ⊢
  rw [← cntV_start (natOf x)] at HC
  generalize hG : w.heap.size = G at HC ⊢
  have HG := hid hG
  clear hG
  go_loopw [13] (fun i wr => ∃ j : Nat, j ≤ len ∧ i = .int .i64 j ∧ FineTo x j ∧ Cnt w wr G (cntV (natOf x) 0) (cntV (natOf x) j)) (fun i _ => len - (intOf i).toNat)
  case atStart => exact ⟨0, by omega, rfl, (fun i hi => by omega), HC.out⟩
  case round =>
    obtain ⟨j, hj, rfl, hff, hc⟩ := hrel
    have HW := hid hc
    have HFF := hid hff
    clear hc HC hff
    by_cases hlt : j < len
    · have hA := HA.out (by omega)
      subst hA
      have a0 : wr.cell? ⟨b, off + j, none⟩ = some (.int .i64 (x j)) := (HW.out.below.cell (p := ⟨b, off + j, none⟩) (HX.out.lt (by omega))).trans (HX.out.at_ j hlt)
      have HN := hid (show natOf x j = (x j).toNat from rfl)
      have HFN := hid (show 0 ≤ x j ∧ x j ≤ 15 → FineTo x (j + 1) from fun h i hi => by
        by_cases e : i = j
        · rw [e]; exact h
        · exact HFF.out i (by omega))
      generalize x j = y at a0 HN HFN
      by_cases hbad : y < 0 ∨ 15 < y
      · have h1 := HW.out.blk
        have h2 := HW.out.res
        have hbb : (decide (y < 0) = true) ∨ (decide (y < 0) = false ∧ decide (15 < y) = true) := by
          rcases hbad with h | h
          · exact .inl (by simpa using h)
          · by_cases c : y < 0
            · exact .inl (by simpa using c)
            · exact .inr ⟨by simpa using c, by simpa using h⟩
        clear hbad
        rcases hbb with h | ⟨h, h'⟩
        all_goals
          go_wp2_with (first | (refine wpList_load_row rfl 97 _ rfl (G + 1) rfl 97 (cntV (natOf x) j) (0, 0) (.array 16 3) h1 und97 rfl (by rw [cntV_size]; exact size97) ?_) | (refine wpList_store_row rfl 97 _ _ rfl G (cntV (natOf x) j) rfl rfl 97 (cntV (natOf x) 0) h2 (by rw [cntV_size]; exact size97) (by rw [cntV_size, cntV_size]) (cntV_one _ _) ?_))
          have h3 := setRow_heap wr G (cntV (natOf x) 0) (cntV (natOf x) j) 97 (0, 0) h2
          have hB := below_setRow HW.out.below HW.out.low (cntV (natOf x) j)
          generalize wr.setRow G (cntV (natOf x) j) = W9 at h3 hB ⊢
          exact bodyPost_ret (results_cell_tmp (fn := Try.f76) Try.results76 _ W9 G 97 (cntV (natOf x) j) (0, 0) (.array 16 3) rfl (.bool false) rfl h3 und97 rfl (by rw [cntV_size]; exact size97)) rfl ⟨_, cntV_size _ _, cntV_one _ _, rfl, hB⟩
      · have x0 : 0 ≤ y := by omega
        have x1 : y ≤ 15 := by omega
        have HFO := hid (HFN.out ⟨x0, x1⟩)
        clear HFN hbad
        obtain ⟨n, rfl⟩ := Int.eq_ofNat_of_zero_le x0
        by_cases hz : n = 0
        · have HS := hid (cntV_none (natOf x) j (by rw [HN.out]; omega))
          subst hz
          go_wp2_with fail
          go_roundw
          case rel => exact ⟨j + 1, by omega, by go_num, HFO.out, by rw [HS.out]; exact HW.out⟩
          case measure => simp [intOf]; omega
        · have HS := hid (cntV_more (natOf x) j n (by rw [HN.out]; omega) hz)
          have c0 : wr.cell? ⟨G + 1, n, none⟩ = some (.int .i64 (cT (natOf x) j n : Nat)) := by rw [cell_of_row _ _ _ _ _ _ HW.out.blk]; exact cntV_at _ _ _ (by omega)
          have f0 : wr.frozen? ⟨G + 1, n, none⟩ = false := frozen_of_row _ _ _ _ _ HW.out.blk
          have hcl := cT_le (natOf x) n j
          generalize cT (natOf x) j n = q at HS c0 hcl
          go_wp2_with fail
          go_roundw
          case rel => exact ⟨j + 1, by omega, by go_num, HFO.out, by rw [← HS.out]; exact HW.out.set n _⟩
          case measure => simp [intOf]; omega
    · obtain rfl : j = len := by omega
      exact absurd HFF.out HF.out

theorem und3 : Try.prog.underlying 3 = some (.int .i64) := by kernel_rfl
theorem info3 : (Try.prog.info? 3).map (·.size) = some 1 := by kernel_rfl
theorem index97 (cs : Array Value) (i : Nat) (v : Value) (hi : i < 16) (hv : cs[i]? = some v) (w : World) :
    (Instr.index 97 (.agg cs) (.int .i64 (i : Int))).run Try.prog w = .ok v w := by
  have h0 : (0 : Int) ≤ i ∧ (i : Int) < (16 : Nat) := by omega
  obtain ⟨t3, h3, h4⟩ : ∃ t3, Try.prog.info? 3 = some t3 ∧ t3.size = 1 := by
    have h := info3
    cases hq : Try.prog.info? 3 with
    | none => rw [hq] at h; cases h
    | some t => rw [hq] at h; exact ⟨t, rfl, by simpa using h⟩
  simp [Instr.index, run_underlying und97, asIntOf, h0, part, hv, sizeOf, typeInfo, h3, h4, go_sem]
  intro h; omega

theorem counts_bad (A : Option Addr) (b off len cap : Nat) (x : Nat → Int) (w : World) (hA : 0 < len → A = some ⟨b, off, none⟩) (hx : Ints w b off len x) (hlen : len ≤ 9223372036854775807) (hf : ¬ Fine len x) :
    Calls Try.prog 76 #[.slice A len cap] w (NoRow w) := by
  by_cases h : len ≤ 300
  · exact counts_no A b off len cap x w hA hx h (fun c => hf ⟨h, c⟩)
  · exact (counts_long A len cap w (by omega) hlen).mono fun e w' ⟨h1, h2⟩ => ⟨_, cntV_size _ _, cntV_one _ _, h1, h2⟩

/-- A row of 16 that a callee handed back, in a block of one's own. -/
structure Held (w W : World) (G : Nat) (c : Array Value) (T : TypeId) : Prop where
  blk : W.heap[G]? = some (.cells c T (0, 0))
  below : Below w.heap.size w W
  low : w.heap.size ≤ G
theorem Held.lt {w W : World} {G : Nat} {c : Array Value} {T : TypeId} (h : Held w W G c T) : G < W.heap.size := (Array.getElem?_eq_some_iff.1 h.blk).1
theorem Held.step {w W W' : World} {G : Nat} {c : Array Value} {T : TypeId} (h : Held w W G c T) (b : Below W.heap.size W W') : Held w W' G c T :=
  ⟨(b.block G h.lt).trans h.blk, h.below.trans (b.mono h.below.size), h.low⟩
theorem held_new {w W : World} (h : Below w.heap.size w W) (z c : Array Value) (T : TypeId) : Held w ((W.alloc (.cells z T)).setRow W.heap.size c) W.heap.size c T :=
  ⟨setRow_heap _ _ _ _ _ _ (heap_alloc_new W (.cells z T)), below_setRow (h.alloc h.size _) h.size _, h.size⟩

theorem shl_int (c p : Nat) (hc : c ≤ 300) (hp : p ≤ 15) : wrap64 ((c : Int) * 2 ^ p) = ((c * 2 ^ p : Nat) : Int) := by
  have h := Nat.pow_le_pow_right (show 0 < 2 by decide) hp
  have e : ((2 : Int) ^ p) = ((2 ^ p : Nat) : Int) := by simp
  have h2 : c * 2 ^ p ≤ 300 * 2 ^ 15 := Nat.mul_le_mul hc h
  rw [e]
  have e2 : ((c : Int) * ((2 ^ p : Nat) : Int)) = ((c * 2 ^ p : Nat) : Int) := by simp
  rw [e2]
  generalize c * 2 ^ p = x at h2 ⊢
  unfold wrap64
  omega

theorem shl_le (c p : Nat) (hc : c ≤ 300) (hp : p ≤ 15) : c * 2 ^ p ≤ 9830400 := by
  have h := Nat.pow_le_pow_right (show 0 < 2 by decide) hp
  exact Nat.le_trans (Nat.mul_le_mul hc h) (by decide)
theorem wrap_sum (r q : Nat) (hr : r ≤ 157286400) (hq : q ≤ 9830400) : wrap64 ((r : Int) + (q : Int)) = ((r + q : Nat) : Int) := by
  unfold wrap64
  omega

set_option maxRecDepth 100000 in
set_option maxHeartbeats 1000000 in
theorem kind_yes (A : Option Addr) (b off len cap : Nat) (x : Nat → Int) (w : World) (hA : 0 < len → A = some ⟨b, off, none⟩) (hx : Ints w b off len x) (hf : Fine len x) :
    Calls Try.prog 55 #[.slice A len cap] w fun e w' => e = .returned (.int .i64 (kindOf (wT (natOf x) len) : Nat)) ∧ Below w.heap.size w w' := by
  have HX := hid hx
  have HA := hid hA
  have HF := hid hf
  have HR := hid (rT_wT (natOf x) len (fun i hi => by have := hf.2 i hi; unfold natOf; omega))
  have hlen := hf.1
  clear hx hA hf
  go_enter Try.func55, Try.ntmps55
  go_wp2_with fail
  refine (counts_yes A b off len cap x _ HA.out HX.out HF.out).mono ?_
  rintro e w1 ⟨rfl, hb1⟩
  have H1 := hid hb1
  clear hb1
  have hz := heap_alloc_new w1 (.cells #[.int .i64 0, .int .i64 0, .int .i64 0, .int .i64 0, .int .i64 0, .int .i64 0, .int .i64 0, .int .i64 0, .int .i64 0, .int .i64 0, .int .i64 0, .int .i64 0, .int .i64 0, .int .i64 0, .int .i64 0, .int .i64 0] 97)
  go_upto_region 2 with (refine wpList_store_row rfl 97 _ _ rfl w1.heap.size (cntV (natOf x) len) rfl rfl 97 #[.int .i64 0, .int .i64 0, .int .i64 0, .int .i64 0, .int .i64 0, .int .i64 0, .int .i64 0, .int .i64 0, .int .i64 0, .int .i64 0, .int .i64 0, .int .i64 0, .int .i64 0, .int .i64 0, .int .i64 0, .int .i64 0] hz (by rw [cntV_size]; exact size97) (by rw [cntV_size]; rfl) (cntV_one _ _) ?_)
  have H2 := hid (held_new H1.out #[.int .i64 0, .int .i64 0, .int .i64 0, .int .i64 0, .int .i64 0, .int .i64 0, .int .i64 0, .int .i64 0, .int .i64 0, .int .i64 0, .int .i64 0, .int .i64 0, .int .i64 0, .int .i64 0, .int .i64 0, .int .i64 0] (cntV (natOf x) len) 97)
  generalize (w1.alloc (.cells #[.int .i64 0, .int .i64 0, .int .i64 0, .int .i64 0, .int .i64 0, .int .i64 0, .int .i64 0, .int .i64 0, .int .i64 0, .int .i64 0, .int .i64 0, .int .i64 0, .int .i64 0, .int .i64 0, .int .i64 0, .int .i64 0] 97)).setRow w1.heap.size (cntV (natOf x) len) = W2 at H2 ⊢
  generalize w1.heap.size = G at H2 ⊢
  clear hz
  have h1 := H2.out.blk
  go_wp2_with (refine wpList_load_row rfl 97 _ rfl G rfl 97 (cntV (natOf x) len) (0, 0) (.array 16 3) h1 und97 rfl (by rw [cntV_size]; exact size97) ?_)
  go_loop [5, 16] (fun r i => ∃ n : Nat, n ≤ 16 ∧ i = .int .i64 n ∧ r = .int .i64 (rT (natOf x) len n : Nat)) (fun _ i => 16 - (intOf i).toNat)
  case atStart => exact ⟨0, by omega, rfl, rfl⟩
  case round =>
    obtain ⟨n, hn, rfl, rfl⟩ := hrel
    have hrb := rT_le (natOf x) len n
    have hrb2 : rT (natOf x) len n ≤ 157286400 := Nat.le_trans hrb (Nat.le_trans (Nat.mul_le_mul hn (Nat.mul_le_mul hlen (Nat.le_refl _))) (by decide))
    clear hrb
    by_cases hlt : n < 16
    · have hi := fun w => index97 (cntV (natOf x) len) n _ hlt (cntV_at (natOf x) len n hlt) w
      have hcb := cT_le (natOf x) n len
      have HS := hid (show rT (natOf x) len (n + 1) = rT (natOf x) len n + cT (natOf x) len n * 2 ^ (15 - n) from rfl)
      have HC := hid (shl_int (cT (natOf x) len n) (15 - n) (by omega) (by omega))
      generalize cT (natOf x) len n = q at hi hcb HS HC
      generalize rT (natOf x) len n = r at hrb2 HS ⊢
      go_wp2_with fail
      go_round
      case rel => exact ⟨n + 1, by omega, by go_num, val_int (by rw [HC.out, HS.out]; exact wrap_sum _ _ hrb2 (shl_le q (15 - n) (by omega) (by omega)))⟩
      case measure => simp [intOf]; omega
    · have e16 : n = 16 := by omega
      have HE := hid (show rT (natOf x) len n = wT (natOf x) len by rw [e16]; exact HR.out)
      have hne : ¬ (n : Int) < 16 := by omega
      rw [HE.out] at hrb2 ⊢
      clear HR HE e16
      obtain ⟨r, hr⟩ : ∃ r, r = wT (natOf x) len := ⟨_, rfl⟩
      rw [← hr] at hrb2 ⊢
      have HRR := hid hr
      clear hr
      clear hn hlt
      have hri : (r : Int) ≤ 157286400 := by omega
      clear hrb2
      by_cases r0 : r = 0
      · subst r0
        go_wp2_with fail
        go_ret
        exact ⟨ret_int (by rw [← HRR.out]; rfl), H2.out.below⟩
      · have b0 : ((r : Int) == 0) = false := by simp; omega
        by_cases r1 : r < 32768
        · have hk : kindOf r = 2 := by unfold kindOf; rw [if_neg r0, if_pos r1]
          have HK := hid hk
          have b1 : decide ((r : Int) < 32768) = true := by rw [decide_eq_true_iff]; omega
          clear hk r1 r0
          go_wp2_with fail
          go_ret
          exact ⟨ret_int (by rw [← HRR.out, HK.out]; rfl), H2.out.below⟩
        · have b1 : decide ((r : Int) < 32768) = false := by rw [decide_eq_false_iff_not]; omega
          by_cases r2 : r = 32768
          · have hk : kindOf r = 1 := by unfold kindOf; rw [if_neg r0, if_neg r1, if_pos r2]
            have HK := hid hk
            have b2 : ((r : Int) == 32768) = true := by simp; omega
            clear hk r2 r1 r0
            go_wp2_with fail
            go_ret
            exact ⟨ret_int (by rw [← HRR.out, HK.out]; rfl), H2.out.below⟩
          · have hk : kindOf r = 3 := by unfold kindOf; rw [if_neg r0, if_neg r1, if_neg r2]
            have HK := hid hk
            have b2 : ((r : Int) == 32768) = false := by simp; omega
            clear hk r0 r1 r2
            go_wp2_with fail
            go_ret
            exact ⟨ret_int (by rw [← HRR.out, HK.out]; rfl), H2.out.below⟩

set_option maxRecDepth 100000 in
set_option maxHeartbeats 1000000 in
theorem kind_no (A : Option Addr) (b off len cap : Nat) (x : Nat → Int) (w : World) (hA : 0 < len → A = some ⟨b, off, none⟩) (hx : Ints w b off len x) (hm : len ≤ 9223372036854775807) (hf : ¬ Fine len x) :
    Calls Try.prog 55 #[.slice A len cap] w fun e w' => e = .returned (.int .i64 3) ∧ Below w.heap.size w w' := by
  have HX := hid hx
  have HA := hid hA
  have HF := hid hf
  clear hx hA hf
  go_enter Try.func55, Try.ntmps55
  go_wp2_with fail
  refine (counts_bad A b off len cap x _ HA.out HX.out hm HF.out).mono ?_
  rintro e w1 ⟨z, hz, ho, rfl, hb1⟩
  have HO := hid ho
  clear ho
  have H1 := hid hb1
  clear hb1
  have hza := heap_alloc_new w1 (.cells #[.int .i64 0, .int .i64 0, .int .i64 0, .int .i64 0, .int .i64 0, .int .i64 0, .int .i64 0, .int .i64 0, .int .i64 0, .int .i64 0, .int .i64 0, .int .i64 0, .int .i64 0, .int .i64 0, .int .i64 0, .int .i64 0] 97)
  have HZ := hid hz
  clear hz
  go_wp2_with (refine wpList_store_row rfl 97 _ _ rfl w1.heap.size z rfl rfl 97 #[.int .i64 0, .int .i64 0, .int .i64 0, .int .i64 0, .int .i64 0, .int .i64 0, .int .i64 0, .int .i64 0, .int .i64 0, .int .i64 0, .int .i64 0, .int .i64 0, .int .i64 0, .int .i64 0, .int .i64 0, .int .i64 0] hza (by rw [HZ.out]; exact size97) (by rw [HZ.out]; rfl) HO.out ?_)
  go_ret
  exact ⟨rfl, below_setRow (H1.out.alloc H1.out.size _) H1.out.size _⟩
end Huff
end Go.Proofs.Ytlfohihmkfphhaa
