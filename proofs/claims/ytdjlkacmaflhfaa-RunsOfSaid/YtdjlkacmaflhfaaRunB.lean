/- RUNS: the row of any steps, as the program reads them. -/
import Derived.Test.YtdjlkacmaflhfaaRunA
import Derived.Laws.AppendOwn
import Derived.Laws.OwnMore
import Derived.Deep.AppendLies
namespace Go.Proofs.Ytdjlkacmaflhfaa
set_option linter.unusedVariables false
open Go.RowKit
open Go.Proofs.Runs
attribute [local go_sem ↓] Go.wp_at_zero Go.wp_at_succ
namespace Run
theorem info3 : (Try.prog.info? 3).map (fun i => (i.zero, i.size, i.bytes)) = some (some (.int .i64 0), 1, 8) := by kernel_rfl
theorem und40 : Try.prog.underlying 40 = some (.slice 3) := by kernel_rfl
abbrev ints (o : List Int) : List Value := o.map (Value.int .i64)
/-- A row of numbers that a call has made. -/
def Own (w : World) (B : Nat) (v : Value) (o : List Int) : Prop := w.ownsRow B 3 1 v o.length (ints o)
theorem Own.form {w : World} {B : Nat} {v : Value} {o : List Int} (h : Own w B v o) :
    ∃ (A : Option Addr) (cap g : Nat), v = .slice A o.length cap ∧ ∀ i, i < o.length → A = some ⟨g, 0, none⟩ ∧ w.cell? ⟨g, i, none⟩ = some (.int .i64 (o.getD i 0)) := by
  rcases h.2 with ⟨rfl, h0⟩ | ⟨g, cap, cur, rfl, _⟩
  · exact ⟨none, 0, 0, by rw [h0], fun i hi => absurd hi (by omega)⟩
  · refine ⟨_, cap, g, rfl, fun i hi => ⟨rfl, ?_⟩⟩
    rw [World.ownsRow.cellAt h i (by omega)]
    simp [ints, hi]
theorem own_below {w w' : World} {B e size n : Nat} {v : Value} {xs : List Value} (h : w.ownsRow B e size v n xs) (hb : Below w.heap.size w w') : w'.ownsRow B e size v n xs := by
  refine ⟨h.1, ?_⟩
  rcases h.2 with hl | ⟨g, cap, cur, h1, h2, h3, h4⟩
  · exact .inl hl
  · exact .inr ⟨g, cap, cur, h1, h2, (hb.block g (Array.getElem?_eq_some_iff.1 h3).1).trans h3, h4⟩
/-- A box of a step, beside a row. -/
structure Box (w W : World) (G T : Nat) (cs : Array Value) (v : Value) (o : List Int) : Prop where
  blk : W.heap[G]? = some (.cells cs T (0, 0))
  below : Below w.heap.size w W
  own : Own W w.heap.size v o
theorem box_new {w W : World} {v : Value} {o : List Int} (hb : Below w.heap.size w W) (ho : Own W w.heap.size v o) (cs : Array Value) (T : Nat) : Box w (W.alloc (.cells cs T)) W.heap.size T cs v o :=
  ⟨heap_alloc_new _ _, hb.alloc hb.size _, ho.alloc _⟩
theorem Box.step {w W W' : World} {G T : Nat} {cs : Array Value} {v : Value} {o : List Int} (h : Box w W G T cs v o) (hb : Below W.heap.size W W') : Box w W' G T cs v o :=
  ⟨(hb.block G (Array.getElem?_eq_some_iff.1 h.blk).1).trans h.blk, h.below.trans (hb.mono h.below.size), own_below h.own hb⟩
theorem Box.cells {w W : World} {G T : Nat} {x y z v : Value} {o : List Int} (h : Box w W G T #[x, y, z] v o) :
    W.cell? ⟨G, 0, none⟩ = some x ∧ W.cell? ⟨G, 1, none⟩ = some y ∧ W.cell? ⟨G, 2, none⟩ = some z :=
  ⟨by rw [cell_of_row _ _ _ _ _ _ h.blk]; rfl, by rw [cell_of_row _ _ _ _ _ _ h.blk]; rfl, by rw [cell_of_row _ _ _ _ _ _ h.blk]; rfl⟩
theorem rep_next (o : List Int) (q : Int) (J : Nat) : ints (o ++ List.replicate (J + 1) q) = ints (o ++ List.replicate J q) ++ [.int .i64 q] := by
  simp [List.replicate_succ']

theorem Own.at_ {w : World} {B g n cap : Nat} {o : List Int} (h : Own w B (.slice (some ⟨g, 0, none⟩) n cap) o) (i : Nat) (hi : i < o.length) : w.cell? ⟨g, i, none⟩ = some (.int .i64 (o.getD i 0)) := by
  obtain ⟨A, cap', g', e, h2⟩ := h.form
  obtain ⟨e1, e2⟩ := h2 i hi
  simp only [Value.slice.injEq] at e
  rw [e1] at e
  simp at e
  rw [e.1]
  exact e2
theorem app_next {w W w1 : World} {v v' : Value} {o : List Int} {q : Int} {J : Nat} {ob : Obj} (ho : Own W w.heap.size v (o ++ List.replicate J q)) (hb : Below w.heap.size w W)
    (h : w1.ownsRow w.heap.size 3 1 v' ((o ++ List.replicate J q).length + 1) (ints (o ++ List.replicate J q) ++ [.int .i64 q])) (hg : (W.alloc ob).grownBy w1 v.ownBlock) :
    Own w1 w.heap.size v' (o ++ List.replicate (J + 1) q) ∧ Below w.heap.size w w1 := by
  refine ⟨?_, (hb.alloc hb.size ob).grown hg (by have := hb.size; simp; omega) (fun k hk => (ho.lt k hk).1)⟩
  unfold Own
  rw [rep_next, show (o ++ List.replicate (J + 1) q).length = (o ++ List.replicate J q).length + 1 from by simp; omega]
  exact h

/-- What a reader of steps answers. -/
def BackPost (r : Option (List Int)) (B : Nat) (e : Ending) (w' : World) : Prop :=
  match r with
  | none => e = .returned (.tuple #[.slice none 0 0, .bool false])
  | some o => ∃ v, e = .returned (.tuple #[v, .bool true]) ∧ Own w' B v o
theorem post_none {r : Option (List Int)} {B : Nat} {w' : World} (h : r = none) : BackPost r B (.returned (.tuple #[.slice none 0 0, .bool false])) w' := by
  subst h; rfl
theorem post_some {r : Option (List Int)} {o : List Int} {B : Nat} {v : Value} {w' : World} (h : r = some o) (h2 : Own w' B v o) : BackPost r B (.returned (.tuple #[v, .bool true])) w' := by
  subst h; exact ⟨v, rfl, h2⟩

/-- Steps that lie in a row. -/
structure StepsAt (w : World) (b off n : Nat) (x y z : Nat → Int) : Prop where
  lt : 0 < n → b < w.heap.size
  at_ : ∀ k, k < n → w.cell? ⟨b, off + k * 3, none⟩ = some (.int .i64 (x k)) ∧ w.cell? ⟨b, off + k * 3 + 1, none⟩ = some (.int .i64 (y k)) ∧ w.cell? ⟨b, off + k * 3 + 2, none⟩ = some (.int .i64 (z k))
theorem StepsAt.below {w w' : World} {b off n : Nat} {x y z : Nat → Int} (h : StepsAt w b off n x y z) (hb : Below w.heap.size w w') : StepsAt w' b off n x y z :=
  ⟨fun hl => Nat.lt_of_lt_of_le (h.lt hl) hb.size, fun k hk => by
    have hl := h.lt (by omega)
    obtain ⟨h1, h2, h3⟩ := h.at_ k hk
    exact ⟨(hb.cell (p := ⟨b, _, none⟩) hl).trans h1, (hb.cell (p := ⟨b, _, none⟩) hl).trans h2, (hb.cell (p := ⟨b, _, none⟩) hl).trans h3⟩⟩

set_option maxRecDepth 100000 in
set_option maxHeartbeats 2000000 in
theorem back (A : Option Addr) (b off n c : Nat) (x y z : Nat → Int) (w : World) (hn : n ≤ 1152921504606846976) (hA : 0 < n → A = some ⟨b, off, none⟩) (hs : StepsAt w b off n x y z) :
    Calls Try.prog 26 #[.slice A n c] w fun e w' => BackPost (rowT x y z n) w.heap.size e w' ∧ Below w.heap.size w w' := by
  have HS := hid hs
  have HA := hid hA
  clear hs hA
  obtain ⟨i0, hi, hz0, hz1, hz2⟩ := info_parts info3
  have HI := hid hi
  clear hi
  go_enter Try.func26, Try.ntmps26
  go_upto_region 3 with fail
  go_loopw [4, 10] (fun l i wr => ∃ (k : Nat) (o : List Int), k ≤ n ∧ i = .int .i64 k ∧ rowT x y z k = some o ∧ Own wr w.heap.size l o ∧ Below w.heap.size w wr) (fun _ i _ => n - (intOf i).toNat)
  case atStart => exact ⟨0, [], Nat.zero_le _, rfl, rfl, World.ownsRow_nil _ _ _ _, Below.refl _ _⟩
  case round =>
    obtain ⟨k, o, hk, rfl, hrun, hown, hB⟩ := hrel
    have HR := hid hrun
    have HO := hid hown
    have HB := hid hB
    clear hrun hown hB
    by_cases hlt : k < n
    · have hA := HA.out (by omega)
      subst hA
      obtain ⟨c0, c1, c2⟩ := (HS.out.below HB.out).at_ k hlt
      have HT := hid (fun h => rowT_succ (x := x) (y := y) (z := z) (k := k) (o := o) h)
      have HX := hid (And.intro (rfl : x k = x k) (And.intro (rfl : y k = y k) (rfl : z k = z k)))
      by_cases hok : okS (x k) (y k) (z k)
      · obtain ⟨A4, cap4, g4, rfl, hc4⟩ := HO.out.form
        have HC4 := hid hc4
        clear hc4
        have HC := hid (fun W => right_yes _ _ _ hok W)
        have hmm := ok_many hok
        have hm0 : 0 ≤ z k ∧ z k < 128 := by unfold okS at hok; omega
        have HM := hid (fun W => many (x k) (y k) (z k) W hm0.1 hm0.2)
        clear hm0
        obtain ⟨M, hM⟩ : ∃ M : Nat, manyI (x k) (z k) = (M : Int) := ⟨(manyI (x k) (z k)).toNat, by omega⟩
        rw [hM] at HM hmm
        have hlen := rowT_len k o HR.out
        by_cases h16 : x k = 16
        · by_cases h0 : o.length = 0
          · have HE := hid (rowT_none (show rowT x y z (k + 1) = none from (HT.out HR.out).trans (oneT_head h16 h0)) n (by omega))
            clear hok HX HT
            generalize x k = s at *
            generalize y k = p at *
            generalize z k = m at *
            subst h16
            have g0 : (o.length : Int) = 0 := by omega
            clear hM
            go_wp2_with fail
            refine (HC.out _).mono ?_
            rintro e w1 ⟨rfl, b1⟩
            have K1 := hid ((box_new HB.out HO.out _ _).step b1)
            obtain ⟨d0, d1, d2⟩ := K1.out.cells
            clear b1
            go_wp2_with fail
            go_ret2
            exact ⟨post_none HE.out, K1.out.below⟩
          · have g0 : ((o.length : Int) == 0) = false := by rw [beq_eq_false_iff_ne]; omega
            by_cases hf : 400 < (o.length : Int) + M
            · have HE := hid (rowT_none (show rowT x y z (k + 1) = none from (HT.out HR.out).trans (oneT_full (by rw [hM]; exact hf))) n (by omega))
              clear hok HX HT
              generalize x k = s at *
              generalize y k = p at *
              generalize z k = m at *
              subst h16
              clear hM
              have w0 : IntKind.i64.wrap ((o.length : Int) + (M : Int)) = (o.length : Int) + (M : Int) := IntWalk.i64_in _ (by omega)
              go_wp2_with fail
              refine (HC.out _).mono ?_
              rintro e w1 ⟨rfl, b1⟩
              have K1 := hid ((box_new HB.out HO.out _ _).step b1)
              obtain ⟨d0, d1, d2⟩ := K1.out.cells
              clear b1
              go_wp2_with fail
              refine (HM.out _).mono ?_
              rintro e w2 ⟨rfl, b2⟩
              have K2 := hid (K1.out.step b2)
              clear d0 d1 d2 b2
              obtain ⟨d0, d1, d2⟩ := K2.out.cells
              go_wp2_with fail
              go_ret2
              exact ⟨post_none HE.out, K2.out.below⟩
            · obtain ⟨q, hq⟩ : ∃ q, q = o.getD (o.length - 1) 0 := ⟨_, rfl⟩
              have HN := hid ((HT.out HR.out).trans (oneT_ok hok (fun c => h0 c.2) (by rw [hM]; omega)))
              rw [hM, show valI o (x k) = q from by rw [hq]; exact if_pos h16] at HN
              have HM1 : (M : Int).toNat = M := by simp
              rw [HM1] at HN
              clear HM1
              clear hok HX HT
              generalize x k = s at *
              generalize y k = p at *
              generalize z k = m at *
              subst h16
              clear hM
              have w0 : IntKind.i64.wrap ((o.length : Int) + (M : Int)) = (o.length : Int) + (M : Int) := IntWalk.i64_in _ (by omega)
              obtain ⟨rfl, _⟩ := HC4.out (o.length - 1) (by omega)
              have w1 : IntKind.i64.wrap ((o.length : Int) - 1) = ((o.length - 1 : Nat) : Int) := by rw [IntWalk.i64_in _ (by omega)]; omega
              have w2 : ((o.length - 1 : Nat) : Int) < (o.length : Int) := by omega
              go_wp2_with fail
              refine (HC.out _).mono ?_
              rintro e w1 ⟨rfl, b1⟩
              have K1 := hid ((box_new HB.out HO.out _ _).step b1)
              obtain ⟨d0, d1, d2⟩ := K1.out.cells
              clear b1
              go_wp2_with fail
              refine (HM.out _).mono ?_
              rintro e w2 ⟨rfl, b2⟩
              have K2 := hid (K1.out.step b2)
              clear d0 d1 d2 b2
              obtain ⟨d0, d1, d2⟩ := K2.out.cells
              have e4 : w2.cell? ⟨g4, o.length - 1, none⟩ = some (.int .i64 q) := by rw [hq]; exact K2.out.own.at_ (o.length - 1) (by omega)
              clear hq
              go_wp2_with fail
              refine (HM.out _).mono ?_
              rintro e w3 ⟨rfl, b3⟩
              have K3 := hid (K2.out.step b3)
              clear d0 d1 d2 b3 c0 c1 c2
              go_wp2_with fail
              obtain ⟨wo, rfl⟩ : ∃ wo : World, wo = wr := ⟨_, rfl⟩
              go_loopw [4, 53] (fun l j wr => ∃ J : Nat, J ≤ M ∧ j = .int .i64 J ∧ Own wr w.heap.size l (o ++ List.replicate J q) ∧ Below w.heap.size w wr) (fun _ j _ => M - (intOf j).toNat)
              case atStart => exact ⟨0, Nat.zero_le _, rfl, by simpa using K3.out.own, K3.out.below⟩
              case round =>
                obtain ⟨J, hJ, rfl, hown, hB'⟩ := hrel
                have HO' := hid hown
                have HB' := hid hB'
                clear hown hB'
                by_cases hj : J < M
                · have hz := HB'.out.size
                  go_wp2_with (at_builtin; go_loud (refine wpList_append_own _ rfl _ _ 40 rfl w.heap.size 3 i0 (.int .i64 0) 1 8 und40 HI.out hz0 hz1 hz2 rfl (by decide) _ _ _ rfl (HO'.out.alloc _) ⟨wr.heap.size, 0, none⟩ 1 1 [.int .i64 q] rfl rfl (World.news_of_block (heap_alloc_new _ _)) (by simp [Value.oneCell']) (by simp [maxLen]; omega) (by simp; omega) (by simp; omega) ?_; intro v' w4 hown4 hgrow4 _))
                  have R := hid (app_next HO'.out HB'.out hown4 hgrow4)
                  clear hown4 hgrow4 hz
                  go_wp2_with fail
                  go_roundw
                  case rel => exact ⟨J + 1, by omega, by go_num, R.out.1, R.out.2⟩
                  case measure => simp [intOf]; omega
                · obtain rfl : J = M := by omega
                  clear hj
                  go_wp2_with fail
                  go_roundw
                  case rel => exact ⟨k + 1, _, by omega, by go_num, HN.out, HO'.out, HB'.out⟩
                  case measure => simp [intOf]; omega
        · have g0 : (x k == 16) = false := by simpa using h16
          by_cases hf : 400 < (o.length : Int) + M
          · have HE := hid (rowT_none (show rowT x y z (k + 1) = none from (HT.out HR.out).trans (oneT_full (by rw [hM]; exact hf))) n (by omega))
            clear hok HX HT
            generalize x k = s at *
            generalize y k = p at *
            generalize z k = m at *
            clear hM
            have w0 : IntKind.i64.wrap ((o.length : Int) + (M : Int)) = (o.length : Int) + (M : Int) := IntWalk.i64_in _ (by omega)
            go_wp2_with fail
            refine (HC.out _).mono ?_
            rintro e w1 ⟨rfl, b1⟩
            have K1 := hid ((box_new HB.out HO.out _ _).step b1)
            obtain ⟨d0, d1, d2⟩ := K1.out.cells
            clear b1
            go_wp2_with fail
            refine (HM.out _).mono ?_
            rintro e w2 ⟨rfl, b2⟩
            have K2 := hid (K1.out.step b2)
            clear d0 d1 d2 b2
            obtain ⟨d0, d1, d2⟩ := K2.out.cells
            go_wp2_with fail
            go_ret2
            exact ⟨post_none HE.out, K2.out.below⟩
          · by_cases h15 : x k < 16
            · obtain ⟨q, hq⟩ : ∃ q : Int, q = x k := ⟨_, rfl⟩
              have HN := hid ((HT.out HR.out).trans (oneT_ok hok (fun c => h16 c.1) (by rw [hM]; omega)))
              rw [hM, show valI o (x k) = q from by rw [hq]; exact (if_neg h16).trans (if_pos h15)] at HN
              have HM1 : (M : Int).toNat = M := by simp
              rw [HM1] at HN
              clear HM1
              clear hok HX HT
              generalize x k = s at *
              generalize y k = p at *
              generalize z k = m at *
              clear hM
              subst hq
              have w0 : IntKind.i64.wrap ((o.length : Int) + (M : Int)) = (o.length : Int) + (M : Int) := IntWalk.i64_in _ (by omega)
              go_wp2_with fail
              refine (HC.out _).mono ?_
              rintro e w1 ⟨rfl, b1⟩
              have K1 := hid ((box_new HB.out HO.out _ _).step b1)
              obtain ⟨d0, d1, d2⟩ := K1.out.cells
              clear b1
              go_wp2_with fail
              refine (HM.out _).mono ?_
              rintro e w2 ⟨rfl, b2⟩
              have K2 := hid (K1.out.step b2)
              clear d0 d1 d2 b2
              obtain ⟨d0, d1, d2⟩ := K2.out.cells
              go_wp2_with fail
              refine (HM.out _).mono ?_
              rintro e w3 ⟨rfl, b3⟩
              have K3 := hid (K2.out.step b3)
              clear d0 d1 d2 b3 c0 c1 c2
              go_wp2_with fail
              obtain ⟨wo, rfl⟩ : ∃ wo : World, wo = wr := ⟨_, rfl⟩
              go_loopw [4, 53] (fun l j wr => ∃ J : Nat, J ≤ M ∧ j = .int .i64 J ∧ Own wr w.heap.size l (o ++ List.replicate J q) ∧ Below w.heap.size w wr) (fun _ j _ => M - (intOf j).toNat)
              case atStart => exact ⟨0, Nat.zero_le _, rfl, by simpa using K3.out.own, K3.out.below⟩
              case round =>
                obtain ⟨J, hJ, rfl, hown, hB'⟩ := hrel
                have HO' := hid hown
                have HB' := hid hB'
                clear hown hB'
                by_cases hj : J < M
                · have hz := HB'.out.size
                  go_wp2_with (at_builtin; go_loud (refine wpList_append_own _ rfl _ _ 40 rfl w.heap.size 3 i0 (.int .i64 0) 1 8 und40 HI.out hz0 hz1 hz2 rfl (by decide) _ _ _ rfl (HO'.out.alloc _) ⟨wr.heap.size, 0, none⟩ 1 1 [.int .i64 q] rfl rfl (World.news_of_block (heap_alloc_new _ _)) (by simp [Value.oneCell']) (by simp [maxLen]; omega) (by simp; omega) (by simp; omega) ?_; intro v' w4 hown4 hgrow4 _))
                  have R := hid (app_next HO'.out HB'.out hown4 hgrow4)
                  clear hown4 hgrow4 hz
                  go_wp2_with fail
                  go_roundw
                  case rel => exact ⟨J + 1, by omega, by go_num, R.out.1, R.out.2⟩
                  case measure => simp [intOf]; omega
                · obtain rfl : J = M := by omega
                  clear hj
                  go_wp2_with fail
                  go_roundw
                  case rel => exact ⟨k + 1, _, by omega, by go_num, HN.out, HO'.out, HB'.out⟩
                  case measure => simp [intOf]; omega
            · obtain ⟨q, hq⟩ : ∃ q : Int, q = 0 := ⟨_, rfl⟩
              have HN := hid ((HT.out HR.out).trans (oneT_ok hok (fun c => h16 c.1) (by rw [hM]; omega)))
              rw [hM, show valI o (x k) = q from by rw [hq]; exact (if_neg h16).trans (if_neg h15)] at HN
              have HM1 : (M : Int).toNat = M := by simp
              rw [HM1] at HN
              clear HM1
              clear hok HX HT
              generalize x k = s at *
              generalize y k = p at *
              generalize z k = m at *
              clear hM
              subst hq
              have w0 : IntKind.i64.wrap ((o.length : Int) + (M : Int)) = (o.length : Int) + (M : Int) := IntWalk.i64_in _ (by omega)
              go_wp2_with fail
              refine (HC.out _).mono ?_
              rintro e w1 ⟨rfl, b1⟩
              have K1 := hid ((box_new HB.out HO.out _ _).step b1)
              obtain ⟨d0, d1, d2⟩ := K1.out.cells
              clear b1
              go_wp2_with fail
              refine (HM.out _).mono ?_
              rintro e w2 ⟨rfl, b2⟩
              have K2 := hid (K1.out.step b2)
              clear d0 d1 d2 b2
              obtain ⟨d0, d1, d2⟩ := K2.out.cells
              go_wp2_with fail
              refine (HM.out _).mono ?_
              rintro e w3 ⟨rfl, b3⟩
              have K3 := hid (K2.out.step b3)
              clear d0 d1 d2 b3 c0 c1 c2
              go_wp2_with fail
              obtain ⟨wo, rfl⟩ : ∃ wo : World, wo = wr := ⟨_, rfl⟩
              go_loopw [4, 53] (fun l j wr => ∃ J : Nat, J ≤ M ∧ j = .int .i64 J ∧ Own wr w.heap.size l (o ++ List.replicate J (0 : Int)) ∧ Below w.heap.size w wr) (fun _ j _ => M - (intOf j).toNat)
              case atStart => exact ⟨0, Nat.zero_le _, rfl, by simpa using K3.out.own, K3.out.below⟩
              case round =>
                obtain ⟨J, hJ, rfl, hown, hB'⟩ := hrel
                have HO' := hid hown
                have HB' := hid hB'
                clear hown hB'
                by_cases hj : J < M
                · have hz := HB'.out.size
                  go_wp2_with (at_builtin; go_loud (refine wpList_append_own _ rfl _ _ 40 rfl w.heap.size 3 i0 (.int .i64 0) 1 8 und40 HI.out hz0 hz1 hz2 rfl (by decide) _ _ _ rfl (HO'.out.alloc _) ⟨wr.heap.size, 0, none⟩ 1 1 [.int .i64 0] rfl rfl (World.news_of_block (heap_alloc_new _ _)) (by simp [Value.oneCell']) (by simp [maxLen]; omega) (by simp; omega) (by simp; omega) ?_; intro v' w4 hown4 hgrow4 _))
                  have R := hid (app_next HO'.out HB'.out hown4 hgrow4)
                  clear hown4 hgrow4 hz
                  go_wp2_with fail
                  go_roundw
                  case rel => exact ⟨J + 1, by omega, by go_num, R.out.1, R.out.2⟩
                  case measure => simp [intOf]; omega
                · obtain rfl : J = M := by omega
                  clear hj
                  go_wp2_with fail
                  go_roundw
                  case rel => exact ⟨k + 1, _, by omega, by go_num, HN.out, HO'.out, HB'.out⟩
                  case measure => simp [intOf]; omega
      · have HC := hid (fun W => right_no (x k) (y k) (z k) hok W)
        have HE := hid (rowT_none (show rowT x y z (k + 1) = none from (HT.out HR.out).trans (oneT_bad hok)) n (by omega))
        clear hok HX
        generalize x k = s at *
        generalize y k = p at *
        generalize z k = m at *
        go_wp2_with fail
        refine (HC.out _).mono ?_
        rintro e w1 ⟨rfl, b1⟩
        go_wp2_with fail
        go_ret2
        exact ⟨post_none HE.out, ((box_new HB.out HO.out _ _).step b1).below⟩
    · obtain rfl : k = n := by omega
      go_wp2_with fail
      go_ret2
      exact ⟨post_some HR.out HO.out, HB.out⟩
end Run
end Go.Proofs.Ytdjlkacmaflhfaa
