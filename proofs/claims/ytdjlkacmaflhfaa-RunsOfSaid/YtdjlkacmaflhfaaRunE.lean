/- RUNS: rows of steps in memory; the steps of a row, as the program makes them. -/
import Derived.Test.YtdjlkacmaflhfaaRunD
import Derived.Laws.Tables
namespace Go.Proofs.Ytdjlkacmaflhfaa
set_option linter.unusedVariables false
open Go.RowKit
open Go.Proofs.Runs
attribute [local go_sem ↓] Go.wp_at_zero Go.wp_at_succ
namespace Run
def cells3 (o : List S) : List Value := o.flatMap fun s => [Value.int .i64 s.1, .int .i64 s.2.1, .int .i64 s.2.2]
theorem cells3_cons (s : S) (o : List S) : cells3 (s :: o) = Value.int .i64 s.1 :: .int .i64 s.2.1 :: .int .i64 s.2.2 :: cells3 o := rfl
theorem cells3_len (o : List S) : (cells3 o).length = o.length * 3 := by
  induction o with
  | nil => rfl
  | cons s o ih => rw [cells3_cons]; simp [ih]; omega
theorem cells3_app (o : List S) (s : S) : cells3 (o ++ [s]) = cells3 o ++ [Value.int .i64 s.1, .int .i64 s.2.1, .int .i64 s.2.2] := by
  simp [cells3]
theorem cells3_at : ∀ (o : List S) (k : Nat), k < o.length → (cells3 o)[k * 3]? = some (.int .i64 (sx o k)) ∧ (cells3 o)[k * 3 + 1]? = some (.int .i64 (sy o k)) ∧ (cells3 o)[k * 3 + 2]? = some (.int .i64 (sz o k)) := by
  intro o
  induction o with
  | nil => intro k hk; simp at hk
  | cons s o ih =>
    intro k hk
    rw [cells3_cons]
    cases k with
    | zero => exact ⟨rfl, rfl, rfl⟩
    | succ k =>
      have := ih k (by simpa using hk)
      rw [show (k + 1) * 3 = k * 3 + 3 by omega]
      exact this
def OwnS (w : World) (B T : Nat) (v : Value) (o : List S) : Prop := w.ownsRow B T 3 v o.length (cells3 o)
theorem OwnS.form {w : World} {B T : Nat} {v : Value} {o : List S} (h : OwnS w B T v o) :
    ∃ (A : Option Addr) (cap g : Nat), v = .slice A o.length cap ∧ (0 < o.length → A = some ⟨g, 0, none⟩) ∧ StepsAt w g 0 o.length (sx o) (sy o) (sz o) := by
  rcases h.2 with ⟨rfl, h0⟩ | ⟨g, cap, cur, rfl, h1, h2, _⟩
  · exact ⟨none, 0, 0, by rw [h0], fun hh => absurd hh (by omega), ⟨fun hh => absurd hh (by omega), fun k hk => absurd hk (by omega)⟩⟩
  · refine ⟨_, cap, g, rfl, fun _ => rfl, fun _ => (Array.getElem?_eq_some_iff.1 h2).1, fun k hk => ?_⟩
    obtain ⟨a1, a2, a3⟩ := cells3_at o k hk
    rw [Nat.zero_add]
    exact ⟨(World.ownsRow.cellAt h _ (by omega)).trans a1, (World.ownsRow.cellAt h _ (by omega)).trans a2, (World.ownsRow.cellAt h _ (by omega)).trans a3⟩
theorem und41 : Try.prog.underlying 41 = some (.slice 48) := by kernel_rfl
theorem info48 : (Try.prog.info? 48).map (fun i => (i.zero, i.size, i.bytes)) = some (some (.agg #[.int .i64 0, .int .i64 0, .int .i64 0]), 3, 24) := by kernel_rfl
theorem size48 : (Try.prog.info? 48).map (·.size) = some 3 := by kernel_rfl

/-- The row's own box, and the steps that were made so far. -/
structure Hold (w W : World) (hv v : Value) (o : List S) : Prop where
  box : W.heap[w.heap.size]? = some (.cells #[hv] 40 (0, 0))
  below : Below w.heap.size w W
  own : OwnS W (w.heap.size + 1) 48 v o
theorem Hold.step {w W W' : World} {hv v : Value} {o : List S} (h : Hold w W hv v o) (hb : Below W.heap.size W W') : Hold w W' hv v o :=
  ⟨(hb.block _ (Array.getElem?_eq_some_iff.1 h.box).1).trans h.box, h.below.trans (hb.mono h.below.size), own_below h.own hb⟩
theorem Hold.cell {w W : World} {hv v : Value} {o : List S} (h : Hold w W hv v o) : W.cell? ⟨w.heap.size, 0, none⟩ = some hv := by rw [cell_of_row _ _ _ _ _ _ h.box]; rfl
theorem Hold.lt {w W : World} {hv v : Value} {o : List S} (h : Hold w W hv v o) : w.heap.size < W.heap.size := (Array.getElem?_eq_some_iff.1 h.box).1
/-- And a box of a step. -/
structure Held (w W : World) (hv v : Value) (o : List S) (G : Nat) (x y z : Int) : Prop where
  hold : Hold w W hv v o
  blk : W.heap[G]? = some (.cells #[.int .i64 x, .int .i64 y, .int .i64 z] 48 (0, 0))
  gt : w.heap.size < G
  apart : ∀ k, v.ownBlock = some k → k < G
theorem held_new {w W : World} {hv v : Value} {o : List S} (h : Hold w W hv v o) (x y z : Int) : Held w (W.alloc (.cells #[.int .i64 x, .int .i64 y, .int .i64 z] 48)) hv v o W.heap.size x y z :=
  ⟨h.step ((Below.refl _ _).alloc (Nat.le_refl _) _), heap_alloc_new _ _, h.lt, fun k hk => (h.own.lt k hk).2⟩
theorem Held.step {w W W' : World} {hv v : Value} {o : List S} {G : Nat} {x y z : Int} (h : Held w W hv v o G x y z) (hb : Below W.heap.size W W') : Held w W' hv v o G x y z :=
  ⟨h.hold.step hb, (hb.block _ (Array.getElem?_eq_some_iff.1 h.blk).1).trans h.blk, h.gt, h.apart⟩
theorem Held.cells {w W : World} {hv v : Value} {o : List S} {G : Nat} {x y z : Int} (h : Held w W hv v o G x y z) :
    W.cell? ⟨G, 0, none⟩ = some (.int .i64 x) ∧ W.cell? ⟨G, 1, none⟩ = some (.int .i64 y) ∧ W.cell? ⟨G, 2, none⟩ = some (.int .i64 z) :=
  ⟨by rw [cell_of_row _ _ _ _ _ _ h.blk]; rfl, by rw [cell_of_row _ _ _ _ _ _ h.blk]; rfl, by rw [cell_of_row _ _ _ _ _ _ h.blk]; rfl⟩
theorem Held.set {w W : World} {hv v : Value} {o : List S} {G : Nat} {x y z : Int} (h : Held w W hv v o G x y z) (x' y' z' : Int) :
    Held w (W.setRow G #[.int .i64 x', .int .i64 y', .int .i64 z']) hv v o G x' y' z' := by
  have hb : Below G W (W.setRow G #[.int .i64 x', .int .i64 y', .int .i64 z']) := ⟨rfl, rfl, rfl, by simp, fun k hk => setRow_other W G k _ (by omega)⟩
  refine ⟨⟨(setRow_other _ _ _ _ (by have := h.gt; omega)).trans h.hold.box, h.hold.below.trans (hb.mono (Nat.le_of_lt h.gt)), ?_⟩, setRow_heap _ _ _ _ _ _ h.blk, h.gt, h.apart⟩
  refine ⟨h.hold.own.1, ?_⟩
  rcases h.hold.own.2 with hl | ⟨g, cap, cur, h1, h2, h3, h4⟩
  · exact .inl hl
  · have hg := h.apart g (by rw [h1]; rfl)
    exact .inr ⟨g, cap, cur, h1, h2, (setRow_other _ _ _ _ (by omega)).trans h3, h4⟩
theorem Held.app {w W w1 : World} {hv v v' : Value} {o : List S} {G : Nat} {x y z : Int} {ob : Obj} (h : Held w W hv v o G x y z)
    (ho : w1.ownsRow (w.heap.size + 1) 48 3 v' (o.length + 1) (cells3 o ++ [.int .i64 x, .int .i64 y, .int .i64 z])) (hg : (W.alloc ob).grownBy w1 v.ownBlock) :
    Hold w w1 hv v' (o ++ [(x, y, z)]) ∧ w1.heap[G]? = some (.cells #[.int .i64 x, .int .i64 y, .int .i64 z] 48 (0, 0)) := by
  have hs : Hold w (W.alloc ob) hv v o := h.hold.step ((Below.refl _ _).alloc (Nat.le_refl _) _)
  have hG : G < W.heap.size := (Array.getElem?_eq_some_iff.1 h.blk).1
  have hlt := h.hold.lt
  refine ⟨⟨(hg.block _ (by simp; omega) (fun e => by have := (h.hold.own.lt _ e.symm).1; omega)).trans hs.box,
    hs.below.grown hg (by simp; omega) (fun k hk => Nat.le_of_lt (h.hold.own.lt k hk).1), ?_⟩, ?_⟩
  · unfold OwnS
    rw [cells3_app, show (o ++ [(x, y, z)]).length = o.length + 1 by simp]
    exact ho
  · rw [hg.block G (by simp; omega) (fun e => by have := h.apart _ e.symm; omega)]
    exact (Below.heap_alloc W ob G hG).trans h.blk
theorem row_cells {W : World} {G : Nat} {x y z : Int} (h : W.heap[G]? = some (.cells #[.int .i64 x, .int .i64 y, .int .i64 z] 48 (0, 0))) :
    W.cell? ⟨G, 0, none⟩ = some (.int .i64 x) ∧ W.cell? ⟨G, 1, none⟩ = some (.int .i64 y) ∧ W.cell? ⟨G, 2, none⟩ = some (.int .i64 z) :=
  ⟨by rw [cell_of_row _ _ _ _ _ _ h]; rfl, by rw [cell_of_row _ _ _ _ _ _ h]; rfl, by rw [cell_of_row _ _ _ _ _ _ h]; rfl⟩

set_option maxRecDepth 100000 in
set_option maxHeartbeats 4000000 in
theorem of_yes (A : Option Addr) (b off len cap : Nat) (x : Nat → Int) (w : World) (hF : Fine x len) (hx : Ints w A b off len x) :
    Calls Try.prog 22 #[.slice A len cap] w fun e w' => (∃ v, e = .returned v ∧ OwnS w' (w.heap.size + 1) 48 v (ofT x len)) ∧ Below w.heap.size w w' := by
  have HX := hid hx
  have HF := hid hF
  have h400 := hF.1
  have HRL := hid (fun W h => rightLens_yes A b off len cap x W hF h)
  clear hx hF
  have L18 : Hid (∀ W, Calls Try.prog 36 #[.int .i64 18] W fun e w' => e = .returned (.int .i64 11) ∧ w' = W) := hid fun W => least 18 W
  have L17 : Hid (∀ W, Calls Try.prog 36 #[.int .i64 17] W fun e w' => e = .returned (.int .i64 3) ∧ w' = W) := hid fun W => least 17 W
  have L16 : Hid (∀ W, Calls Try.prog 36 #[.int .i64 16] W fun e w' => e = .returned (.int .i64 3) ∧ w' = W) := hid fun W => least 16 W
  obtain ⟨i0, hi, hz0, hz1, hz2⟩ := info_parts info48
  have HI := hid hi
  clear hi
  have HH : Hid (Hold w (w.alloc (.cells #[.slice A len cap] 40)) (.slice A len cap) (.slice none 0 0) []) := hid ⟨heap_alloc_new _ _, (Below.refl _ _).alloc (Nat.le_refl _) _, World.ownsRow_nil _ _ _ _⟩
  go_enter Try.func22, Try.ntmps22
  go_wp2_with fail
  generalize w.alloc (.cells #[.slice A len cap] 40) = W0 at HH ⊢
  have c0 := HH.out.cell
  refine (HRL.out _ (HX.out.below HH.out.below)).mono ?_
  rintro e w1 ⟨rfl, rfl⟩
  go_upto_region 6 with fail
  clear c0
  go_loopw [4, 5] (fun l i wr => ∃ (j at' : Nat) (o : List S), stT x len j = (at', o) ∧ i = .int .i64 at' ∧ Hold w wr (.slice A len cap) l o) (fun _ i _ => len - (intOf i).toNat)
  case atStart => exact ⟨0, 0, [], rfl, rfl, HH.out⟩
  case round =>
    obtain ⟨j, at', o, hst, rfl, hh⟩ := hrel
    have hle := st_le x len j
    rw [hst] at hle
    obtain ⟨hle1, hle2, _⟩ := hle
    simp only at hle1 hle2
    have HS := hid hst
    have K0 := hid hh
    clear hst hh
    have c0 := K0.out.cell
    by_cases hlt : at' < len
    · have hA := HX.out.ad (by omega)
      subst hA
      obtain ⟨A4, cap4, g4, hv4, _⟩ := K0.out.own.form
      subst hv4
      have c1 := (HX.out.below K0.out.below).at_ at' hlt
      have hn := atN_le (x := x) hlt
      have HN := hid (st_next HS.out hlt)
      have hxa := HF.out.2 at' hlt
      have hz := zT_le (x := x) hle1
      have ha := aT_le (x := x) hle1
      have ZC := hid (fun W h => goesOn (some ⟨b, off, none⟩) b off len cap w.heap.size x at' 0 W (by omega) hle1 h)
      have hq : stepV (x at') (bitsI (x at')) (stepM (x at') 1) = stepV (x at') 0 0 := by
        have h1 := bits_le (x at')
        have h2 := many_cases (x at') 0
        unfold stepM; unfold manyI at h2
        rw [show bitsI (x at') = 0 by omega, show room (x at') = 1 by omega, show leastI (x at') = 1 by omega]; rfl
      have SC := hid (fun W => step (x at') 1 (by omega) (by omega) (by decide) (by decide) W)
      rw [hq] at SC
      clear hq
      have hnc := next_cases x (zT x len at') (aT x len at') at'
      unfold atN at hn HN
      unfold atS at HN
      rw [show goes x len 0 at' = zT x len at' from rfl] at ZC
      have AC := hid (fun (h : at' ≠ 0) W h' => goesOn (some ⟨b, off, none⟩) b off len cap w.heap.size x at' (x (at' - 1)) W (by omega) hle1 h')
      have HA0 := hid (show at' = 0 → aT x len at' = 0 from fun h => if_pos h)
      have HA1 := hid (show at' ≠ 0 → goes x len (x (at' - 1)) at' = aT x len at' from fun h => (if_neg h).symm)
      generalize zT x len at' = z at *
      generalize aT x len at' = a at *
      rcases hnc with ⟨g1, e1, e2⟩ | ⟨g1, g2, e1, e2⟩ | ⟨g1, g2, e1, e2⟩ | ⟨g1, g2, e1, e2⟩ <;> rw [e1, e2] at HN <;> rw [e2] at hn <;> clear e1 e2
      · obtain ⟨M, hM⟩ : ∃ M : Nat, M = min (z - 11) 127 := ⟨_, rfl⟩
        obtain ⟨N, hN⟩ : ∃ N : Nat, N = min z 138 := ⟨_, rfl⟩
        rw [← hM, ← hN] at HN
        rw [← hN] at hn
        have S18 : Hid (∀ W, Calls Try.prog 35 #[.int .i64 18, .int .i64 (z : Nat)] W fun e w' => e = .returned (stepV 18 7 (M : Int)) ∧ Below W.heap.size W w') := hid fun W => by
          have h := step 18 (z : Nat) (by omega) (by omega) (by omega) (by omega) W
          rw [show bitsI 18 = 7 from rfl, show stepM 18 (z : Nat) = (M : Int) by unfold stepM; rw [show leastI 18 = 11 from rfl, show room 18 = 128 from rfl]; omega] at h
          exact h
        have MC : Hid (∀ W, Calls Try.prog 37 #[stepV 18 7 (M : Int)] W fun e w' => e = .returned (.int .i64 ((N : Nat) : Int)) ∧ Below W.heap.size W w') := hid fun W => by
          have h := many 18 7 (M : Int) W (by omega) (by omega)
          rw [show manyI 18 (M : Int) = ((N : Nat) : Int) by have := many_cases 18 (M : Int); omega] at h
          exact h
        have w0 : IntKind.i64.wrap ((at' : Int) + ((N : Nat) : Int)) = ((at' + N : Nat) : Int) := by rw [IntWalk.i64_in _ (by omega)]; omega
        have g11 : (11 : Int) ≤ (z : Int) := by omega
        clear hM hN
        go_wp2_with fail
        refine (SC.out _).mono ?_
        rintro e w1 ⟨rfl, b1⟩
        have K1 := hid (K0.out.step b1)
        clear b1 c0 c1
        go_wp2_with fail
        have K2 := hid (held_new K1.out (x at') 0 0)
        generalize w1.alloc (.cells #[.int .i64 (x at'), .int .i64 0, .int .i64 0] 48) = W2 at K2 ⊢
        have c0 := K2.out.hold.cell
        refine (ZC.out _ (HX.out.below K2.out.hold.below) c0).mono ?_
        rintro e w3 ⟨rfl, rfl⟩
        go_wp2_with fail
        refine (L18.out _).mono ?_
        rintro e w4 ⟨rfl, rfl⟩
        go_wp2_with fail
        refine (S18.out _).mono ?_
        rintro e w6 ⟨rfl, b6⟩
        have K3 := hid (K2.out.step b6)
        have K4 := hid (K3.out.set 18 7 (M : Int))
        clear b6 c0
        go_wp2_with (first
          | ((refine wpList_store_row rfl 48 _ _ rfl w1.heap.size #[.int .i64 18, .int .i64 7, .int .i64 (M : Int)] rfl rfl 48 _ K3.out.blk size48 rfl (by simp [Value.oneCell']) ?_; generalize World.setRow _ _ _ = W7 at K4 ⊢; have d0 := K4.out.cells.1; have d1 := K4.out.cells.2.1; have d2 := K4.out.cells.2.2))
          | (at_builtin; (refine wpList_append_own _ rfl _ _ 41 rfl (w.heap.size + 1) 48 i0 (.agg #[.int .i64 0, .int .i64 0, .int .i64 0]) 3 24 und41 HI.out hz0 hz1 hz2 rfl (by decide) _ _ _ rfl (K4.out.hold.own.alloc _) _ 1 1 [.int .i64 18, .int .i64 7, .int .i64 (M : Int)] rfl rfl (World.news_of_block (heap_alloc_new _ _)) (by simp [Value.oneCell']) (by simp [maxLen]; omega) (by omega) (by have h9 := K4.out.hold.lt; simp only [World.alloc, Array.size_push]; omega) ?_; intro v' w8 hown8 hgrow8 _; have R := hid (K4.out.app hown8 hgrow8); clear hown8 hgrow8 d0 d1 d2; have d0 := (row_cells R.out.2).1; have d1 := (row_cells R.out.2).2.1; have d2 := (row_cells R.out.2).2.2)))
        refine (MC.out _).mono ?_
        rintro e w9 ⟨rfl, b9⟩
        have K9 := hid (R.out.1.step b9)
        clear b9 d0 d1 d2
        go_wp2_with fail
        go_roundw
        case rel => exact ⟨j + 1, _, _, HN.out, by go_num, K9.out⟩
        case measure => simp [intOf]; omega
      · obtain ⟨M, hM⟩ : ∃ M : Nat, M = z - 3 := ⟨_, rfl⟩
        rw [← hM] at HN
        have S17 : Hid (∀ W, Calls Try.prog 35 #[.int .i64 17, .int .i64 (z : Nat)] W fun e w' => e = .returned (stepV 17 3 (M : Int)) ∧ Below W.heap.size W w') := hid fun W => by
          have h := step 17 (z : Nat) (by omega) (by omega) (by omega) (by omega) W
          rw [show bitsI 17 = 3 from rfl, show stepM 17 (z : Nat) = (M : Int) by unfold stepM; rw [show leastI 17 = 3 from rfl, show room 17 = 8 from rfl]; omega] at h
          exact h
        have MC : Hid (∀ W, Calls Try.prog 37 #[stepV 17 3 (M : Int)] W fun e w' => e = .returned (.int .i64 ((z : Nat) : Int)) ∧ Below W.heap.size W w') := hid fun W => by
          have h := many 17 3 (M : Int) W (by omega) (by omega)
          rw [show manyI 17 (M : Int) = ((z : Nat) : Int) by have := many_cases 17 (M : Int); omega] at h
          exact h
        have w0 : IntKind.i64.wrap ((at' : Int) + ((z : Nat) : Int)) = ((at' + z : Nat) : Int) := by rw [IntWalk.i64_in _ (by omega)]; omega
        have g11 : ¬ (11 : Int) ≤ (z : Int) := by omega
        have g3 : (3 : Int) ≤ (z : Int) := by omega
        clear hM
        go_wp2_with fail
        refine (SC.out _).mono ?_
        rintro e w1 ⟨rfl, b1⟩
        have K1 := hid (K0.out.step b1)
        clear b1 c0 c1
        go_wp2_with fail
        have K2 := hid (held_new K1.out (x at') 0 0)
        generalize w1.alloc (.cells #[.int .i64 (x at'), .int .i64 0, .int .i64 0] 48) = W2 at K2 ⊢
        have c0 := K2.out.hold.cell
        refine (ZC.out _ (HX.out.below K2.out.hold.below) c0).mono ?_
        rintro e w3 ⟨rfl, rfl⟩
        go_wp2_with fail
        refine (L18.out _).mono ?_
        rintro e w4 ⟨rfl, rfl⟩
        go_wp2_with fail
        refine (L17.out _).mono ?_
        rintro e w5 ⟨rfl, rfl⟩
        go_wp2_with fail
        refine (S17.out _).mono ?_
        rintro e w6 ⟨rfl, b6⟩
        have K3 := hid (K2.out.step b6)
        have K4 := hid (K3.out.set 17 3 (M : Int))
        clear b6 c0
        go_wp2_with (first
          | ((refine wpList_store_row rfl 48 _ _ rfl w1.heap.size #[.int .i64 17, .int .i64 3, .int .i64 (M : Int)] rfl rfl 48 _ K3.out.blk size48 rfl (by simp [Value.oneCell']) ?_; generalize World.setRow _ _ _ = W7 at K4 ⊢; have d0 := K4.out.cells.1; have d1 := K4.out.cells.2.1; have d2 := K4.out.cells.2.2))
          | (at_builtin; (refine wpList_append_own _ rfl _ _ 41 rfl (w.heap.size + 1) 48 i0 (.agg #[.int .i64 0, .int .i64 0, .int .i64 0]) 3 24 und41 HI.out hz0 hz1 hz2 rfl (by decide) _ _ _ rfl (K4.out.hold.own.alloc _) _ 1 1 [.int .i64 17, .int .i64 3, .int .i64 (M : Int)] rfl rfl (World.news_of_block (heap_alloc_new _ _)) (by simp [Value.oneCell']) (by simp [maxLen]; omega) (by omega) (by have h9 := K4.out.hold.lt; simp only [World.alloc, Array.size_push]; omega) ?_; intro v' w8 hown8 hgrow8 _; have R := hid (K4.out.app hown8 hgrow8); clear hown8 hgrow8 d0 d1 d2; have d0 := (row_cells R.out.2).1; have d1 := (row_cells R.out.2).2.1; have d2 := (row_cells R.out.2).2.2)))
        refine (MC.out _).mono ?_
        rintro e w9 ⟨rfl, b9⟩
        have K9 := hid (R.out.1.step b9)
        clear b9 d0 d1 d2
        go_wp2_with fail
        go_roundw
        case rel => exact ⟨j + 1, _, _, HN.out, by go_num, K9.out⟩
        case measure => simp [intOf]; omega
      · have hp : at' ≠ 0 := fun h => by have := HA0.out h; omega
        obtain ⟨M, hM⟩ : ∃ M : Nat, M = min (a - 3) 3 := ⟨_, rfl⟩
        obtain ⟨N, hN⟩ : ∃ N : Nat, N = min a 6 := ⟨_, rfl⟩
        rw [← hM, ← hN] at HN
        rw [← hN] at hn
        have S16 : Hid (∀ W, Calls Try.prog 35 #[.int .i64 16, .int .i64 (a : Nat)] W fun e w' => e = .returned (stepV 16 2 (M : Int)) ∧ Below W.heap.size W w') := hid fun W => by
          have h := step 16 (a : Nat) (by omega) (by omega) (by omega) (by omega) W
          rw [show bitsI 16 = 2 from rfl, show stepM 16 (a : Nat) = (M : Int) by unfold stepM; rw [show leastI 16 = 3 from rfl, show room 16 = 4 from rfl]; omega] at h
          exact h
        have MC : Hid (∀ W, Calls Try.prog 37 #[stepV 16 2 (M : Int)] W fun e w' => e = .returned (.int .i64 ((N : Nat) : Int)) ∧ Below W.heap.size W w') := hid fun W => by
          have h := many 16 2 (M : Int) W (by omega) (by omega)
          rw [show manyI 16 (M : Int) = ((N : Nat) : Int) by have := many_cases 16 (M : Int); omega] at h
          exact h
        have w0 : IntKind.i64.wrap ((at' : Int) + ((N : Nat) : Int)) = ((at' + N : Nat) : Int) := by rw [IntWalk.i64_in _ (by omega)]; omega
        have g11 : ¬ (11 : Int) ≤ (z : Int) := by omega
        have g3 : ¬ (3 : Int) ≤ (z : Int) := by omega
        have ga : (3 : Int) ≤ (a : Int) := by omega
        clear hM hN
        have hp1 : (0 : Int) < (at' : Int) := by omega
        have hp2 : IntKind.i64.wrap ((at' : Int) - 1) = ((at' - 1 : Nat) : Int) := by rw [IntWalk.i64_in _ (by omega)]; omega
        have hp3 : ((at' - 1 : Nat) : Int) < (len : Int) := by omega
        have AD := hid (AC.out hp)
        rw [HA1.out hp] at AD
        have HX1 := hid (show x (at' - 1) = x (at' - 1) from rfl)
        go_wp2_with fail
        refine (SC.out _).mono ?_
        rintro e w1 ⟨rfl, b1⟩
        have K1 := hid (K0.out.step b1)
        clear b1 c0 c1
        go_wp2_with fail
        have K2 := hid (held_new K1.out (x at') 0 0)
        generalize w1.alloc (.cells #[.int .i64 (x at'), .int .i64 0, .int .i64 0] 48) = W2 at K2 ⊢
        have c0 := K2.out.hold.cell
        refine (ZC.out _ (HX.out.below K2.out.hold.below) c0).mono ?_
        rintro e w3 ⟨rfl, rfl⟩
        go_wp2_with fail
        refine (L18.out _).mono ?_
        rintro e w4 ⟨rfl, rfl⟩
        go_wp2_with fail
        refine (L17.out _).mono ?_
        rintro e w5 ⟨rfl, rfl⟩
        have c2 := (HX.out.below K2.out.hold.below).at_ (at' - 1) (by omega)
        go_wp2_with fail
        refine (AD.out _ (HX.out.below K2.out.hold.below) c0).mono ?_
        rintro e w10 ⟨rfl, rfl⟩
        go_wp2_with fail
        refine (L16.out _).mono ?_
        rintro e w11 ⟨rfl, rfl⟩
        go_wp2_with fail
        refine (AD.out _ (HX.out.below K2.out.hold.below) c0).mono ?_
        rintro e w12 ⟨rfl, rfl⟩
        clear c2
        go_wp2_with fail
        refine (S16.out _).mono ?_
        rintro e w6 ⟨rfl, b6⟩
        have K3 := hid (K2.out.step b6)
        have K4 := hid (K3.out.set 16 2 (M : Int))
        clear b6 c0
        go_wp2_with (first
          | ((refine wpList_store_row rfl 48 _ _ rfl w1.heap.size #[.int .i64 16, .int .i64 2, .int .i64 (M : Int)] rfl rfl 48 _ K3.out.blk size48 rfl (by simp [Value.oneCell']) ?_; generalize World.setRow _ _ _ = W7 at K4 ⊢; have d0 := K4.out.cells.1; have d1 := K4.out.cells.2.1; have d2 := K4.out.cells.2.2))
          | (at_builtin; (refine wpList_append_own _ rfl _ _ 41 rfl (w.heap.size + 1) 48 i0 (.agg #[.int .i64 0, .int .i64 0, .int .i64 0]) 3 24 und41 HI.out hz0 hz1 hz2 rfl (by decide) _ _ _ rfl (K4.out.hold.own.alloc _) _ 1 1 [.int .i64 16, .int .i64 2, .int .i64 (M : Int)] rfl rfl (World.news_of_block (heap_alloc_new _ _)) (by simp [Value.oneCell']) (by simp [maxLen]; omega) (by omega) (by have h9 := K4.out.hold.lt; simp only [World.alloc, Array.size_push]; omega) ?_; intro v' w8 hown8 hgrow8 _; have R := hid (K4.out.app hown8 hgrow8); clear hown8 hgrow8 d0 d1 d2; have d0 := (row_cells R.out.2).1; have d1 := (row_cells R.out.2).2.1; have d2 := (row_cells R.out.2).2.2)))
        refine (MC.out _).mono ?_
        rintro e w9 ⟨rfl, b9⟩
        have K9 := hid (R.out.1.step b9)
        clear b9 d0 d1 d2
        go_wp2_with fail
        go_roundw
        case rel => exact ⟨j + 1, _, _, HN.out, by go_num, K9.out⟩
        case measure => simp [intOf]; omega
      · by_cases hp : at' = 0
        · subst hp
          rw [Nat.add_zero] at c1
          have hl0 : (0 : Int) < (len : Int) := by omega
          have MC : Hid (∀ W, Calls Try.prog 37 #[stepV (x 0) 0 0] W fun e w' => e = .returned (.int .i64 ((1 : Nat) : Int)) ∧ Below W.heap.size W w') := hid fun W => by
            have h := many (x 0) 0 0 W (by omega) (by omega)
            rw [show manyI (x 0) 0 = ((1 : Nat) : Int) by have := many_cases (x 0) 0; omega] at h
            exact h
          have w0 : IntKind.i64.wrap ((0 : Int) + ((1 : Nat) : Int)) = ((0 + 1 : Nat) : Int) := by rw [IntWalk.i64_in _ (by omega)]; omega
          have g11 : ¬ (11 : Int) ≤ (z : Int) := by omega
          have g3 : ¬ (3 : Int) ≤ (z : Int) := by omega
          go_wp2_with fail
          refine (SC.out _).mono ?_
          rintro e w1 ⟨rfl, b1⟩
          have K1 := hid (K0.out.step b1)
          clear b1 c0 c1
          go_wp2_with fail
          have K2 := hid (held_new K1.out (x 0) 0 0)
          generalize w1.alloc (.cells #[.int .i64 (x 0), .int .i64 0, .int .i64 0] 48) = W2 at K2 ⊢
          have c0 := K2.out.hold.cell
          refine (ZC.out _ (HX.out.below K2.out.hold.below) c0).mono ?_
          rintro e w3 ⟨rfl, rfl⟩
          go_wp2_with fail
          refine (L18.out _).mono ?_
          rintro e w4 ⟨rfl, rfl⟩
          go_wp2_with fail
          refine (L17.out _).mono ?_
          rintro e w5 ⟨rfl, rfl⟩
          have d0 := K2.out.cells.1
          have d1 := K2.out.cells.2.1
          have d2 := K2.out.cells.2.2
          go_wp2_with (first
            | (at_builtin; (refine wpList_append_own _ rfl _ _ 41 rfl (w.heap.size + 1) 48 i0 (.agg #[.int .i64 0, .int .i64 0, .int .i64 0]) 3 24 und41 HI.out hz0 hz1 hz2 rfl (by decide) _ _ _ rfl (K2.out.hold.own.alloc _) _ 1 1 [.int .i64 (x 0), .int .i64 0, .int .i64 0] rfl rfl (World.news_of_block (heap_alloc_new _ _)) (by simp [Value.oneCell']) (by simp [maxLen]; omega) (by omega) (by have h9 := K2.out.hold.lt; simp only [World.alloc, Array.size_push]; omega) ?_; intro v' w8 hown8 hgrow8 _; have R := hid (K2.out.app hown8 hgrow8); clear hown8 hgrow8 d0 d1 d2; have d0 := (row_cells R.out.2).1; have d1 := (row_cells R.out.2).2.1; have d2 := (row_cells R.out.2).2.2)))
          clear c0
          refine (MC.out _).mono ?_
          rintro e w9 ⟨rfl, b9⟩
          have K9 := hid (R.out.1.step b9)
          clear b9 d0 d1 d2
          go_wp2_with fail
          go_roundw
          case rel => exact ⟨j + 1, _, _, HN.out, by go_num, K9.out⟩
          case measure => simp [intOf]; omega
        · have ga : ¬ (3 : Int) ≤ (a : Int) := by omega
          have MC : Hid (∀ W, Calls Try.prog 37 #[stepV (x at') 0 0] W fun e w' => e = .returned (.int .i64 ((1 : Nat) : Int)) ∧ Below W.heap.size W w') := hid fun W => by
            have h := many (x at') 0 0 W (by omega) (by omega)
            rw [show manyI (x at') 0 = ((1 : Nat) : Int) by have := many_cases (x at') 0; omega] at h
            exact h
          have w0 : IntKind.i64.wrap ((at' : Int) + ((1 : Nat) : Int)) = ((at' + 1 : Nat) : Int) := by rw [IntWalk.i64_in _ (by omega)]; omega
          have g11 : ¬ (11 : Int) ≤ (z : Int) := by omega
          have g3 : ¬ (3 : Int) ≤ (z : Int) := by omega
          have hp1 : (0 : Int) < (at' : Int) := by omega
          have hp2 : IntKind.i64.wrap ((at' : Int) - 1) = ((at' - 1 : Nat) : Int) := by rw [IntWalk.i64_in _ (by omega)]; omega
          have hp3 : ((at' - 1 : Nat) : Int) < (len : Int) := by omega
          have AD := hid (AC.out hp)
          rw [HA1.out hp] at AD
          have HX1 := hid (show x (at' - 1) = x (at' - 1) from rfl)
          go_wp2_with fail
          refine (SC.out _).mono ?_
          rintro e w1 ⟨rfl, b1⟩
          have K1 := hid (K0.out.step b1)
          clear b1 c0 c1
          go_wp2_with fail
          have K2 := hid (held_new K1.out (x at') 0 0)
          generalize w1.alloc (.cells #[.int .i64 (x at'), .int .i64 0, .int .i64 0] 48) = W2 at K2 ⊢
          have c0 := K2.out.hold.cell
          refine (ZC.out _ (HX.out.below K2.out.hold.below) c0).mono ?_
          rintro e w3 ⟨rfl, rfl⟩
          go_wp2_with fail
          refine (L18.out _).mono ?_
          rintro e w4 ⟨rfl, rfl⟩
          go_wp2_with fail
          refine (L17.out _).mono ?_
          rintro e w5 ⟨rfl, rfl⟩
          have c2 := (HX.out.below K2.out.hold.below).at_ (at' - 1) (by omega)
          go_wp2_with fail
          refine (AD.out _ (HX.out.below K2.out.hold.below) c0).mono ?_
          rintro e w10 ⟨rfl, rfl⟩
          go_wp2_with fail
          refine (L16.out _).mono ?_
          rintro e w11 ⟨rfl, rfl⟩
          clear c2
          have d0 := K2.out.cells.1
          have d1 := K2.out.cells.2.1
          have d2 := K2.out.cells.2.2
          go_wp2_with (first
            | (at_builtin; (refine wpList_append_own _ rfl _ _ 41 rfl (w.heap.size + 1) 48 i0 (.agg #[.int .i64 0, .int .i64 0, .int .i64 0]) 3 24 und41 HI.out hz0 hz1 hz2 rfl (by decide) _ _ _ rfl (K2.out.hold.own.alloc _) _ 1 1 [.int .i64 (x at'), .int .i64 0, .int .i64 0] rfl rfl (World.news_of_block (heap_alloc_new _ _)) (by simp [Value.oneCell']) (by simp [maxLen]; omega) (by omega) (by have h9 := K2.out.hold.lt; simp only [World.alloc, Array.size_push]; omega) ?_; intro v' w8 hown8 hgrow8 _; have R := hid (K2.out.app hown8 hgrow8); clear hown8 hgrow8 d0 d1 d2; have d0 := (row_cells R.out.2).1; have d1 := (row_cells R.out.2).2.1; have d2 := (row_cells R.out.2).2.2)))
          clear c0
          refine (MC.out _).mono ?_
          rintro e w9 ⟨rfl, b9⟩
          have K9 := hid (R.out.1.step b9)
          clear b9 d0 d1 d2
          go_wp2_with fail
          go_roundw
          case rel => exact ⟨j + 1, _, _, HN.out, by go_num, K9.out⟩
          case measure => simp [intOf]; omega
    · have HD := hid (st_done HS.out hlt)
      obtain ⟨A4, cap4, g4, hv4, _⟩ := K0.out.own.form
      subst hv4
      have g0 : ¬ (at' : Int) < (len : Int) := by omega
      go_wp2_with fail
      go_ret
      exact ⟨⟨_, rfl, by rw [HD.out]; exact K0.out.own⟩, K0.out.below⟩
end Run
end Go.Proofs.Ytdjlkacmaflhfaa
