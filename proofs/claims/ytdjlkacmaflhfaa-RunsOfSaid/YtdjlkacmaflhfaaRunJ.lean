/- RUNS: how often each symbol comes. -/
import Derived.Test.YtdjlkacmaflhfaaRunG
import Derived.Stop.BytesEq
namespace Go.Proofs.Ytdjlkacmaflhfaa
set_option linter.unusedVariables false
open Go.RowKit
open Go.Proofs.Runs
attribute [local go_sem ↓] Go.wp_at_zero Go.wp_at_succ
namespace Run
def rowV (f : Nat → Value) (n : Nat) : Array Value := ((List.range n).map f).toArray
theorem rowV_size (f : Nat → Value) (n : Nat) : (rowV f n).size = n := by unfold rowV; simp
theorem rowV_at (f : Nat → Value) (n i : Nat) (h : i < n) : (rowV f n)[i]? = some (f i) := by
  unfold rowV
  simp [h]
theorem rowV_ext {a : Array Value} {f : Nat → Value} {n : Nat} (hs : a.size = n) (h : ∀ i, i < n → a[i]? = some (f i)) : a = rowV f n := by
  apply Array.ext_getElem?
  intro j
  by_cases hj : j < n
  · rw [h j hj, rowV_at f n j hj]
  · rw [Array.getElem?_eq_none (by omega), Array.getElem?_eq_none (by rw [rowV_size]; omega)]
theorem rowV_set (f : Nat → Value) (n j : Nat) (v : Value) : (rowV f n).setIfInBounds j v = rowV (fun i => if i = j then v else f i) n := by
  apply rowV_ext (by simp [rowV_size])
  intro i hi
  rw [Array.getElem?_setIfInBounds]
  by_cases e : j = i
  · subst e
    simp [rowV_size, hi]
  · rw [if_neg e, rowV_at f n i hi, if_neg (fun h => e h.symm)]
theorem rowV_congr {f g : Nat → Value} {n : Nat} (h : ∀ i, i < n → f i = g i) : rowV f n = rowV g n :=
  rowV_ext (rowV_size f n) (fun i hi => by rw [rowV_at f n i hi, h i hi])
theorem rowV_one (f : Nat → Value) (n : Nat) (h : ∀ i, i < n → (f i).oneCell' = true) : (rowV f n).all (·.oneCell') = true := by
  rw [Array.all_eq_true_iff_forall_mem]
  intro x hx
  unfold rowV at hx
  simp at hx
  obtain ⟨j, hj, rfl⟩ := hx
  exact h j hj
theorem setRow_below {B : Nat} {a w : World} (h : Below B a w) {g : Nat} (hg : B ≤ g) (cs : Array Value) : Below B a (w.setRow g cs) :=
  h.trans ⟨rfl, rfl, rfl, by simp, fun k hk => setRow_other w g k cs (by omega)⟩

/-- How often a symbol comes among the first ones. -/
def cT (x : Nat → Int) : Nat → Nat → Nat
  | 0, _ => 0
  | j + 1, n => if x j = (n : Int) then cT x j n + 1 else cT x j n
theorem cT_le (x : Nat → Int) (n : Nat) : ∀ j, cT x j n ≤ j := by
  intro j
  induction j with
  | zero => exact Nat.le_refl _
  | succ j ih => unfold cT; split <;> omega
def cntV (x : Nat → Int) (j : Nat) : Array Value := rowV (fun n => .int .i64 (cT x j n : Nat)) 19
theorem cntV_zero (x : Nat → Int) : cntV x 0 = #[.int .i64 0, .int .i64 0, .int .i64 0, .int .i64 0, .int .i64 0, .int .i64 0, .int .i64 0, .int .i64 0, .int .i64 0, .int .i64 0, .int .i64 0, .int .i64 0, .int .i64 0, .int .i64 0, .int .i64 0, .int .i64 0, .int .i64 0, .int .i64 0, .int .i64 0] := rfl
theorem cntV_at (x : Nat → Int) (j n : Nat) (h : n < 19) : (cntV x j)[n]? = some (.int .i64 (cT x j n : Nat)) := rowV_at _ _ _ h
theorem cntV_none (x : Nat → Int) (j : Nat) (h : x j < 0 ∨ 19 ≤ x j) : cntV x (j + 1) = cntV x j := by
  apply rowV_congr
  intro i hi
  rw [cT, if_neg (by omega)]
theorem cntV_more (x : Nat → Int) (j n : Nat) (h : x j = (n : Int)) (hn : n < 19) : (cntV x j).setIfInBounds n (.int .i64 ((cT x j n : Nat) + 1 : Int)) = cntV x (j + 1) := by
  unfold cntV
  rw [rowV_set]
  apply rowV_congr
  intro i hi
  rw [cT]
  by_cases e : i = n
  · subst e
    rw [if_pos rfl, if_pos h]
    rfl
  · rw [if_neg e, if_neg (by omega)]
theorem cntV_one (x : Nat → Int) (j : Nat) : (cntV x j).all (·.oneCell') = true := rowV_one _ _ (fun _ _ => rfl)
theorem cntV_size (x : Nat → Int) (j : Nat) : (cntV x j).size = 19 := rowV_size _ _
theorem cT_congr {x y : Nat → Int} (n : Nat) : ∀ j, (∀ i, i < j → x i = y i) → cT x j n = cT y j n := by
  intro j
  induction j with
  | zero => intro _; rfl
  | succ j ih => intro h; simp only [cT, ih fun i hi => h i (by omega), h j (by omega)]
theorem und45 : Try.prog.underlying 45 = some (.array 19 3) := by kernel_rfl
theorem size45 : (Try.prog.info? 45).map (·.size) = some 19 := by kernel_rfl
theorem run_equalIn_row {P : Program} (w : World) (d : Nat) (t e : TypeId) (n : Nat) (ht : P.underlying t = some (.array n e)) (he : P.underlying e = some (.int .i64)) (hsz : ∀ w, (sizeOf e).run P w = .ok 1 w) (f : Nat → Int) :
    (Op.equalIn (d + 2) t (.agg (rowV (fun i => .int .i64 (f i)) n)) (.agg (rowV (fun i => .int .i64 (f i)) n))).run P w = .ok true w := by
  rw [Op.equalIn]
  simp only [Sem.run_bind, run_underlying ht, Result.andThen_ok, hsz, Std.Legacy.Range.forIn_eq_forIn_range', Std.Legacy.Range.size, Nat.sub_zero, Nat.add_sub_cancel, Nat.div_one]
  have hl : ∀ i ∈ List.range' 0 n 1, i < n := fun i hi => by simpa using (List.mem_range'_1.1 hi).2
  generalize List.range' 0 n 1 = l at hl ⊢
  induction l with
  | nil => simp
  | cons i l ih =>
    have hi : i < n := hl i (by simp)
    have px : (part e (rowV (fun i => .int .i64 (f i)) n) (i * 1)).run P w = .ok (.int .i64 (f i)) w := by
      have := rowV_at (fun i => .int .i64 (f i)) n i hi
      simp [part, isAgg, run_underlying he, this]
    have pe : (Op.equalIn (d + 1) e (.int .i64 (f i)) (.int .i64 (f i))).run P w = .ok true w := by
      rw [run_equalIn_int w d e .i64 .i64 _ _ he]
      simp
    simp only [List.forIn_cons, Sem.run_bind, px, pe, Result.andThen_ok]
    simp only [Bool.not_true, Bool.false_eq_true, if_false, Sem.run_pure, Result.andThen_ok]
    exact ih fun j hj => hl j (by simp [hj])
theorem und3i : Try.prog.underlying 3 = some (.int .i64) := by kernel_rfl
theorem size3 (w : World) : (sizeOf 3).run Try.prog w = .ok 1 w := by kernel_rfl
theorem cntV_same (x : Nat → Int) (j : Nat) (W : World) : (binOp BinOp.eql 45 (.agg (cntV x j)) (.agg (cntV x j))).run Try.prog W = .ok (.bool true) W := by
  unfold cntV
  rw [run_eql_struct, run_equalIn_row W 9998 45 3 19 und45 und3i size3]
  rfl
theorem results_cell {P : Program} {fn : Func} {p : Tmp} {ty : TypeId} (h : fn.results = #[.cell p ty]) (tmps : Array Value) (w : World) (g : Nat) (t : TypeId) (cs : Array Value) (fr : Nat × Nat) (d : TypeDesc)
    (hp : tmps.getD p undef = .pointer (some ⟨g, 0, none⟩)) (hg : w.heap[g]? = some (.cells cs t fr))
    (hu : P.underlying ty = some d) (hd : (match d with | .struct _ | .array _ _ => true | _ => false) = true) (hi : (P.info? ty).map (·.size) = some cs.size) :
    (results fn tmps).run P w = .ok (.agg cs) w := by
  have hp' : tmps[p]?.getD undef = .pointer (some ⟨g, 0, none⟩) := by simpa using hp
  simp [results, h, hp', asAddr, run_loadVar_row w g t ty cs fr d hg hu hd hi]

/-- The counts, while they are made. -/
structure Cnt (w W : World) (G : Nat) (z c : Array Value) : Prop where
  res : W.heap[G]? = some (.cells z 45 (0, 0))
  blk : W.heap[G + 1]? = some (.cells c 45 (0, 0))
  below : Below w.heap.size w W
  low : w.heap.size ≤ G
theorem cnt_new (w : World) (z c : Array Value) : Cnt w ((w.alloc (.cells z 45)).alloc (.cells c 45)) w.heap.size z c :=
  ⟨heap_alloc2_old _ _ _, heap_alloc2_new _ _ _, ((Below.refl _ _).alloc (Nat.le_refl _) _).alloc (by simp) _, Nat.le_refl _⟩
theorem Cnt.step {w W W' : World} {G : Nat} {z c : Array Value} (h : Cnt w W G z c) (hb : Below W.heap.size W W') : Cnt w W' G z c :=
  ⟨(hb.block _ (Array.getElem?_eq_some_iff.1 h.res).1).trans h.res, (hb.block _ (Array.getElem?_eq_some_iff.1 h.blk).1).trans h.blk, h.below.trans (hb.mono h.below.size), h.low⟩
theorem Cnt.set {w W : World} {G : Nat} {z c : Array Value} (h : Cnt w W G z c) (n : Nat) (v : Value) : Cnt w (W.setCell ⟨G + 1, n, none⟩ v) G z (c.setIfInBounds n v) :=
  ⟨(Below.heap_setCell _ _ _ _ (by simp)).trans h.res, heap_setCell_same _ _ _ _ _ _ h.blk, h.below.setCell (Nat.le_succ_of_le h.low) v, h.low⟩

set_option maxRecDepth 100000 in
set_option maxHeartbeats 2000000 in
theorem count (A : Option Addr) (b off n cap : Nat) (x y z : Nat → Int) (w : World) (hn : n ≤ 1000000) (hA : 0 < n → A = some ⟨b, off, none⟩) (hs : StepsAt w b off n x y z) :
    Calls Try.prog 24 #[.slice A n cap] w fun e w' => e = .returned (.agg (cntV x n)) ∧ Below w.heap.size w w' := by
  have HS := hid hs
  have HA := hid hA
  clear hs hA
  have HC := hid (cnt_new w (cntV x 0) (cntV x 0))
  rw [cntV_zero] at HC
  go_enter Try.func24, Try.ntmps24
  go_upto_region 3 with fail
  generalize (w.alloc (.cells #[.int .i64 0, .int .i64 0, .int .i64 0, .int .i64 0, .int .i64 0, .int .i64 0, .int .i64 0, .int .i64 0, .int .i64 0, .int .i64 0, .int .i64 0, .int .i64 0, .int .i64 0, .int .i64 0, .int .i64 0, .int .i64 0, .int .i64 0, .int .i64 0, .int .i64 0] 45)).alloc (.cells #[.int .i64 0, .int .i64 0, .int .i64 0, .int .i64 0, .int .i64 0, .int .i64 0, .int .i64 0, .int .i64 0, .int .i64 0, .int .i64 0, .int .i64 0, .int .i64 0, .int .i64 0, .int .i64 0, .int .i64 0, .int .i64 0, .int .i64 0, .int .i64 0, .int .i64 0] 45) = W0 at HC ⊢
  rw [← cntV_zero x] at HC
  generalize w.heap.size = G at HC ⊢
  go_loopw [8] (fun i wr => ∃ j : Nat, j ≤ n ∧ i = .int .i64 j ∧ Cnt w wr G (cntV x 0) (cntV x j)) (fun i _ => n - (intOf i).toNat)
  case atStart => exact ⟨0, by omega, rfl, HC.out⟩
  case round =>
    obtain ⟨j, hj, rfl, hc⟩ := hrel
    have HW := hid hc
    clear hc HC
    by_cases hlt : j < n
    · have hA := HA.out (by omega)
      subst hA
      obtain ⟨c0, c1, c2⟩ := (HS.out.below HW.out.below).at_ j hlt
      have HK := hid (HW.out.step ((Below.refl wr.heap.size wr).alloc (Nat.le_refl _) (.cells #[.int .i64 (x j), .int .i64 (y j), .int .i64 (z j)] 48)))
      have HN := hid (cntV_none x j)
      have HM := hid (cntV_more x j)
      generalize x j = s at *
      generalize y j = p at *
      generalize z j = m at *
      by_cases s0 : 0 ≤ s
      · by_cases s1 : s < 19
        · obtain ⟨k, rfl⟩ := Int.eq_ofNat_of_zero_le s0
          have hk : k < 19 := by omega
          have e0 : (wr.alloc (.cells #[.int .i64 (k : Int), .int .i64 p, .int .i64 m] 48)).cell? ⟨G + 1, k, none⟩ = some (.int .i64 (cT x j k : Nat)) := by rw [cell_of_row _ _ _ _ _ _ HK.out.blk]; exact cntV_at _ _ _ hk
          have f0 : (wr.alloc (.cells #[.int .i64 (k : Int), .int .i64 p, .int .i64 m] 48)).frozen? ⟨G + 1, k, none⟩ = false := frozen_of_row _ _ _ _ _ HK.out.blk
          have HM2 := hid (HM.out k rfl hk)
          have hcl := cT_le x k j
          generalize cT x j k = q at HM2 e0 hcl
          go_wp2_with fail
          go_roundw
          case rel => exact ⟨j + 1, by omega, by go_num, by rw [← HM2.out]; exact HK.out.set k _⟩
          case measure => simp [intOf]; omega
        · have HN2 := hid (HN.out (.inr (by omega)))
          have s2 : decide (s < 19) = false := decide_eq_false s1
          go_wp2_with fail
          go_roundw
          case rel => exact ⟨j + 1, by omega, by go_num, by rw [HN2.out]; exact HK.out⟩
          case measure => simp [intOf]; omega
      · have HN2 := hid (HN.out (.inl (by omega)))
        have s2 : decide (0 ≤ s) = false := decide_eq_false s0
        go_wp2_with fail
        go_roundw
        case rel => exact ⟨j + 1, by omega, by go_num, by rw [HN2.out]; exact HK.out⟩
        case measure => simp [intOf]; omega
    · obtain rfl : j = n := by omega
      have h1 := HW.out.blk
      have h2 := HW.out.res
      go_wp2_with (first | (refine wpList_load_row rfl 45 _ rfl (G + 1) rfl 45 (cntV x j) (0, 0) (.array 19 3) h1 und45 rfl (by rw [cntV_size]; exact size45) ?_) | (refine wpList_store_row rfl 45 _ _ rfl G (cntV x j) rfl rfl 45 (cntV x 0) h2 (by rw [cntV_size]; exact size45) (by rw [cntV_size, cntV_size]) (cntV_one _ _) ?_))
      have h3 := setRow_heap wr G (cntV x 0) (cntV x j) 45 (0, 0) h2
      have hB := setRow_below HW.out.below HW.out.low (cntV x j)
      generalize wr.setRow G (cntV x j) = W9 at h3 hB ⊢
      exact bodyPost_ret (results_cell (fn := Try.f24) Try.results24 _ W9 G 45 (cntV x j) (0, 0) (.array 19 3) rfl h3 und45 rfl (by rw [cntV_size]; exact size45)) rfl ⟨rfl, hB⟩
end Run
end Go.Proofs.Ytdjlkacmaflhfaa
