/- RunsOf: the law's walk. -/
import Derived.Test.YtdjlkacmaflhfaaRunJ
namespace Go.Proofs.Ytdjlkacmaflhfaa
set_option linter.unusedVariables false
open Go.RowKit
open Go.Proofs.Runs
attribute [local go_sem ↓] Go.wp_at_zero Go.wp_at_succ
namespace Run
/-- The steps' symbols. -/
theorem st_syms {x : Nat → Int} {len : Nat} (hF : Fine x len) : ∀ j, ∀ s ∈ (stT x len j).2, 0 ≤ s.1 ∧ s.1 < 19 := by
  intro j
  induction j with
  | zero => intro s hs; simp [stT] at hs
  | succ j ih =>
    generalize hst : stT x len j = q at *
    obtain ⟨at', o⟩ := q
    by_cases hlt : at' < len
    · rw [st_next hst hlt]
      intro s hs
      rcases List.mem_append.1 hs with h | h
      · exact ih s h
      · simp at h
        subst h
        have hx := hF.2 at' hlt
        unfold atS
        rcases next_cases x (zT x len at') (aT x len at') at' with ⟨_, e, _⟩ | ⟨_, _, e, _⟩ | ⟨_, _, e, _⟩ | ⟨_, _, e, _⟩ <;> rw [e] <;> dsimp only <;> omega
    · rw [st_stop hst hlt]
      exact ih
theorem of_syms {x : Nat → Int} {len : Nat} (hF : Fine x len) (k : Nat) (hk : k < (ofT x len).length) : 0 ≤ sx (ofT x len) k ∧ sx (ofT x len) k < 19 := by
  have h := st_syms hF len ((ofT x len).getD k (0, 0, 0)) (by
    rw [List.getD_eq_getElem?_getD, List.getElem?_eq_getElem hk]
    exact List.getElem_mem hk)
  exact h
def fineB (x : Nat → Int) (n : Nat) : Nat → Bool
  | 0 => decide (n ≤ 400)
  | k + 1 => fineB x n k && (decide (0 ≤ x k) && decide (x k ≤ 15))
theorem fineB_iff (x : Nat → Int) (n : Nat) : ∀ k, fineB x n k = true ↔ n ≤ 400 ∧ ∀ i, i < k → 0 ≤ x i ∧ x i ≤ 15 := by
  intro k
  induction k with
  | zero => simp [fineB]
  | succ k ih =>
    simp only [fineB, Bool.and_eq_true, ih, decide_eq_true_eq]
    constructor
    · rintro ⟨⟨h1, h2⟩, h3⟩
      refine ⟨h1, fun i hi => ?_⟩
      by_cases e : i = k
      · subst e; exact h3
      · exact h2 i (by omega)
    · rintro ⟨h1, h2⟩
      exact ⟨⟨h1, fun i hi => h2 i (by omega)⟩, h2 k (by omega)⟩
theorem fineB_yes {x : Nat → Int} {n : Nat} (h : Fine x n) : fineB x n n = true := (fineB_iff x n n).2 h
theorem fineB_no {x : Nat → Int} {n : Nat} (h : ¬ Fine x n) : fineB x n n = false := by
  cases e : fineB x n n with
  | false => rfl
  | true => exact absurd ((fineB_iff x n n).1 e) h
theorem row_below {W W' : World} {g : Nat} {o : Obj} (h : W.heap[g]? = some o) (hb : Below W.heap.size W W') : W'.heap[g]? = some o := (hb.block g (Array.getElem?_eq_some_iff.1 h).1).trans h

structure One45 (w W : World) (G : Nat) (c : Array Value) : Prop where
  blk : W.heap[G]? = some (.cells c 45 (0, 0))
  below : Below w.heap.size w W
  low : w.heap.size ≤ G
theorem One45.drewN {w W : World} {G : Nat} {c : Array Value} (h : One45 w W G c) (q : Nat) : One45 w (W.drewN q) G c := ⟨h.blk, below_drewN h.below q, h.low⟩
theorem One45.step {w W W' : World} {G : Nat} {c : Array Value} (h : One45 w W G c) (hb : Below W.heap.size W W') : One45 w W' G c :=
  ⟨row_below h.blk hb, h.below.trans (hb.mono h.below.size), h.low⟩
theorem One45.set {w W : World} {G : Nat} {c : Array Value} (h : One45 w W G c) (n : Nat) (v : Value) : One45 w (W.setCell ⟨G, n, none⟩ v) G (c.setIfInBounds n v) :=
  ⟨heap_setCell_same _ _ _ _ _ _ h.blk, h.below.setCell h.low v, h.low⟩
theorem load45 {a : Act} {o : Oper} {w : World} {x : Operand} {g : Nat} {cs : Array Value} (ho : o.op = .load 45 x) (hx : a.eval x = .pointer (some ⟨g, 0, none⟩)) (hg : w.heap[g]? = some (.cells cs 45 (0, 0))) (hs : cs.size = 19) :
    (execOp a.eval o).run Try.prog w = .ok (.value (.agg cs)) w := by
  unfold execOp
  simp only [ho, hx, Instr.loadAt, Instr.sureAddr, Sem.run_bind, Sem.run_pure, Result.andThen_ok, run_loadVar_row w g 45 45 cs (0, 0) (.array 19 3) hg und45 rfl (by rw [hs]; exact size45)]

set_option maxRecDepth 100000 in
set_option maxHeartbeats 4000000 in
theorem ofs (A : Option Addr) (b off n c : Nat) (x : Nat → Int) (sym : Int) (w : World) (hn : n ≤ 9223372036854775807) (hx : Ints w A b off n x) :
    Calls Try.prog 7 #[.slice A n c, .int .i64 sym] w fun e w' => e = .returned (.bool true) ∧ Below w.heap.size w w' := by
  have HX := hid hx
  clear hx
  by_cases h450 : 450 < (n : Int)
  · go_enter Try.func7, Try.ntmps7
    go_wp2_with fail
    refine (lives _).mono ?_
    rintro e w1 ⟨rfl, b1⟩
    go_wp2_with fail
    go_ret
    exact ⟨rfl, b1⟩
  · have hn4 : n ≤ 450 := by omega
    have HBI := hid (fun W => bits sym W)
    have HNI := hid (fun (k : Nat) (hk : k < 19) W => nine_at W k hk)
    by_cases hF : Fine x n
    · have HF := hid hF
      have HFB := hid (fineB_yes hF)
      clear hF
      go_enter Try.func7, Try.ntmps7
      go_wp2_with fail
      refine (of_yes A b off n c x _ HF.out HX.out).mono ?_
      rintro e w1 ⟨⟨v1, rfl, ho1⟩, b1⟩
      have HB1 := hid b1
      have HO1 := hid ho1
      clear b1 ho1
      go_wp2_with fail
      refine (refOf A b off n c x _ hn4 (HX.out.below HB1.out)).mono ?_
      rintro e w2 ⟨⟨v2, rfl, ho2⟩, b2⟩
      have HB2 := hid (HB1.out.trans (b2.mono HB1.out.size))
      have HO2 := hid (ho2 HF.out)
      have HO3 := hid (own_below HO1.out b2)
      clear b2 ho2
      obtain ⟨A5, c5, g5, rfl, hA5, hs5⟩ := OwnS.form HO3.out
      obtain ⟨A6, c6, g6, rfl, hA6, hs6⟩ := OwnS.form HO2.out
      have HSY := hid (of_syms HF.out)
      have hL := of_le x n
      have HX2 := hid (HX.out.below HB2.out)
      generalize hl : (ofT x n).length = L at *
      clear hl
      generalize sx (ofT x n) = X at *
      generalize sy (ofT x n) = Y at *
      generalize sz (ofT x n) = Z at *
      have HA5 := hid hA5
      have HA6 := hid hA6
      have HS5 := hid hs5
      have HS6 := hid hs6
      clear hA5 hA6 hs5 hs6
      go_upto_region 6 with fail
      have HD := hid (show decide ((n : Int) ≤ 400) = fineB x n 0 from by simp only [fineB]; congr 1; simp; omega)
      rw [HD.out]
      go_loopw [7, 26] (fun f i wr => ∃ k : Nat, k ≤ n ∧ f = .bool (fineB x n k) ∧ i = .int .i64 k ∧ w2 = wr) (fun _ i _ => n - (intOf i).toNat)
      case atStart => exact ⟨0, Nat.zero_le _, rfl, rfl, rfl⟩
      case round =>
        obtain ⟨k, hk, rfl, rfl, rfl⟩ := hrel
        by_cases hlt : k < n
        · have hA := HX.out.ad (by omega)
          subst hA
          have c0 := HX2.out.at_ k hlt
          have HK := hid (show fineB x n (k + 1) = (fineB x n k && (decide (0 ≤ x k) && decide (x k ≤ 15))) from rfl)
          generalize x k = y at *
          cases hfb : fineB x n k with
          | false =>
            have HK2 := hid hfb
            clear hfb
            go_wp2_with fail
            go_roundw
            case rel => exact ⟨k + 1, by omega, by rw [HK.out, HK2.out]; rfl, by go_num, trivial⟩
            case measure => simp [intOf]; omega
          | true =>
            have HK2 := hid hfb
            clear hfb
            by_cases y0 : 0 ≤ y
            · by_cases y1 : y ≤ 15
              · go_wp2_with fail
                go_roundw
                case rel => exact ⟨k + 1, by omega, by rw [HK.out, HK2.out, decide_eq_true y0, decide_eq_true y1]; rfl, by go_num, trivial⟩
                case measure => simp [intOf]; omega
              · have y1' : decide (y ≤ 15) = false := decide_eq_false y1
                go_wp2_with fail
                go_roundw
                case rel => exact ⟨k + 1, by omega, by rw [HK.out, HK2.out, y1']; simp, by go_num, trivial⟩
                case measure => simp [intOf]; omega
            · have y0' : decide (0 ≤ y) = false := decide_eq_false y0
              go_wp2_with fail
              go_roundw
              case rel => exact ⟨k + 1, by omega, by rw [HK.out, HK2.out, y0']; simp, by go_num, trivial⟩
              case measure => simp [intOf]; omega
        · obtain rfl : k = n := by omega
          rw [HFB.out]
          clear hlt
          go_upto_region 14 with fail
          have K0 : Hid (One45 w2 (w2.alloc (.cells #[.int .i64 0, .int .i64 0, .int .i64 0, .int .i64 0, .int .i64 0, .int .i64 0, .int .i64 0, .int .i64 0, .int .i64 0, .int .i64 0, .int .i64 0, .int .i64 0, .int .i64 0, .int .i64 0, .int .i64 0, .int .i64 0, .int .i64 0, .int .i64 0, .int .i64 0] 45)) w2.heap.size (cntV X 0)) := hid ⟨by rw [cntV_zero]; exact heap_alloc_new _ _, (Below.refl _ _).alloc (Nat.le_refl _) _, Nat.le_refl _⟩
          generalize w2.alloc (.cells #[.int .i64 0, .int .i64 0, .int .i64 0, .int .i64 0, .int .i64 0, .int .i64 0, .int .i64 0, .int .i64 0, .int .i64 0, .int .i64 0, .int .i64 0, .int .i64 0, .int .i64 0, .int .i64 0, .int .i64 0, .int .i64 0, .int .i64 0, .int .i64 0, .int .i64 0] 45) = W0 at K0 ⊢
          go_loopw [44] (fun i wr => ∃ j : Nat, j ≤ L ∧ i = .int .i64 j ∧ One45 w2 wr w2.heap.size (cntV X j)) (fun i _ => L - (intOf i).toNat)
          case atStart => exact ⟨0, Nat.zero_le _, rfl, K0.out⟩
          case round =>
            obtain ⟨j, hj, rfl, hone⟩ := hrel
            have KJ := hid hone
            clear hone
            by_cases hlt : j < L
            · obtain rfl := HA5.out (by omega)
              obtain rfl := HA6.out (by omega)
              obtain ⟨d0, d1, d2⟩ := (HS5.out.below KJ.out.below).at_ j hlt
              obtain ⟨e0, e1, e2⟩ := (HS6.out.below KJ.out.below).at_ j hlt
              rw [Nat.zero_add] at d0 d1 d2 e0 e1 e2
              obtain ⟨s0, s1⟩ := HSY.out j hlt
              have HM := hid (cntV_more X j)
              generalize X j = s at *
              generalize Y j = p at *
              generalize Z j = m at *
              obtain ⟨k, rfl⟩ := Int.eq_ofNat_of_zero_le s0
              have hk : k < 19 := by omega
              have HM2 := hid (HM.out k rfl hk)
              have hji : (j : Int) < (L : Int) := by omega
              have hj0 : (0 : Int) ≤ (j : Int) := by omega
              have g0 : decide ((L : Int) ≤ (j : Int)) = false := decide_eq_false (by omega)
              have g0n : decide (L ≤ j) = false := decide_eq_false (by omega)
              have k0 : wr.cell? ⟨w2.heap.size, k, none⟩ = some (.int .i64 (cT X j k : Nat)) := by rw [cell_of_row _ _ _ _ _ _ KJ.out.blk]; exact cntV_at _ _ _ hk
              have f0 : wr.frozen? ⟨w2.heap.size, k, none⟩ = false := frozen_of_row _ _ _ _ _ KJ.out.blk
              have hcl := cT_le X k j
              generalize cT X j k = q at HM2 k0 hcl
              go_upto_region 16 with fail
              go_quiet (fail)
              go_wp2_with fail
              go_roundw
              case rel => exact ⟨j + 1, by omega, by go_num, by rw [← HM2.out]; exact (KJ.out.drewN _).set k _⟩
              case measure => simp [intOf]; omega
            · obtain rfl : j = L := by omega
              have HCC := hid (fun W h => count A5 g5 0 j c5 X Y Z W (by omega) HA5.out (HS5.out.below h))
              by_cases y0 : 0 ≤ sym
              · obtain ⟨k, rfl⟩ := Int.eq_ofNat_of_zero_le y0
                by_cases y1 : (k : Int) ≤ 18
                · have hk : k < 19 := by omega
                  have hki : (k : Int) < 19 := by omega
                  have c9 := HNI.out k hk wr
                  have KK := hid (KJ.out.step ((Below.refl wr.heap.size wr).alloc (Nat.le_refl _) (.cells #[.int .i64 0, .int .i64 0, .int .i64 0, .int .i64 0, .int .i64 0, .int .i64 0, .int .i64 0, .int .i64 0, .int .i64 0, .int .i64 0, .int .i64 0, .int .i64 0, .int .i64 0, .int .i64 0, .int .i64 0, .int .i64 0, .int .i64 2, .int .i64 3, .int .i64 7] 3)))
                  generalize bitsI (k : Int) = q at *
                  have HCT := hid (show ∀ W, Below w2.heap.size w2 W → Calls Try.prog 24 #[.slice A5 j c5] W fun e w' => e = .returned (.agg (cntV X j)) ∧ Below W.heap.size W w' from fun W h => HCC.out W h)
                  have hcs := cntV_size X j
                  have he := cntV_same X j
                  generalize cntV X j = cv at HCT hcs he KJ KK
                  go_upto_region 23 with fail
                  refine region_quiet_C (C := fun w' => w'.heap[w2.heap.size]? = some (.cells cv 45 (0, 0)) ∧ Below w2.heap.size w2 w') (by kernel_rfl) (by kernel_rfl) ⟨KK.out.blk, KK.out.below.drew⟩ ?_
                  repeat (first
                    | go_big_quiet_skip
                    | (go_big_quiet_want; go_big_quiet_op; go_big_quiet_on)
                    | (go_big_quiet_want; refine quiet_pure (.agg cv) (fun w' hC => load45 rfl rfl hC.1 hcs) ?_; (simp only [Act.put, List.setIfInBounds_toArray, List.set_cons_zero, List.set_cons_succ]); go_big_quiet_on)
                    | (go_big_quiet_want; refine quiet_pure ?_ (fun w' hC => ?_) ?_; rotate_left; (focus (clear hC; go_simp; (try with_reducible rfl); done)); (simp only [Act.put, List.setIfInBounds_toArray, List.set_cons_zero, List.set_cons_succ]); go_big_quiet_on)
                    | (go_big_quiet_want; refine quiet_calls 24 #[.slice A5 j c5] (.agg cv) (fun w' hC => ?_) (fun w' hC => ?_) ?_; (focus (go_simp; done)); (focus (exact (HCT.out w' hC.2).mono fun e w1 h => ⟨h.1, row_below hC.1 h.2, hC.2.trans (h.2.mono hC.2.size)⟩)); (simp only [Act.put, List.setIfInBounds_toArray, List.set_cons_zero, List.set_cons_succ]); go_big_quiet_on)
                    | (go_big_quiet_want; refine quiet_calls 25 #[.int .i64 (k : Int)] (.int .i64 q) (fun w' hC => ?_) (fun w' hC => ?_) ?_; (focus (go_simp; done)); (focus (exact (HBI.out w').mono fun e w1 h => ⟨h.1, h.2 ▸ hC⟩)); (simp only [Act.put, List.setIfInBounds_toArray, List.set_cons_zero, List.set_cons_succ]); go_big_quiet_on)
                    | (go_big_quiet_want; refine quiet_calls 21 #[] (.bool true) (fun w' hC => ?_) (fun w' hC => ?_) ?_; (focus (go_simp; done)); (focus (exact (lives w').mono fun e w1 h => ⟨h.1, row_below hC.1 h.2, hC.2.trans (h.2.mono hC.2.size)⟩)); (simp only [Act.put, List.setIfInBounds_toArray, List.set_cons_zero, List.set_cons_succ]); go_big_quiet_on))
                  refine wpQuiet_nil ?_
                  intro w9 hC
                  have K9 := hid (HB2.out.trans (hC.2.mono HB2.out.size))
                  clear hC
                  go_wp2_with fail
                  go_ret
                  exact ⟨rfl, K9.out⟩
                · have KK := KJ
                  have e9 : bitsI (k : Int) = -1 := by have := bits_le (k : Int); omega
                  rw [e9] at HBI
                  have y1' : decide ((k : Int) ≤ 18) = false := decide_eq_false y1
                  have HCT := hid (show ∀ W, Below w2.heap.size w2 W → Calls Try.prog 24 #[.slice A5 j c5] W fun e w' => e = .returned (.agg (cntV X j)) ∧ Below W.heap.size W w' from fun W h => HCC.out W h)
                  have hcs := cntV_size X j
                  have he := cntV_same X j
                  generalize cntV X j = cv at HCT hcs he KJ KK
                  go_upto_region 23 with fail
                  refine region_quiet_C (C := fun w' => w'.heap[w2.heap.size]? = some (.cells cv 45 (0, 0)) ∧ Below w2.heap.size w2 w') (by kernel_rfl) (by kernel_rfl) ⟨KK.out.blk, KK.out.below.drew⟩ ?_
                  repeat (first
                    | go_big_quiet_skip
                    | (go_big_quiet_want; go_big_quiet_op; go_big_quiet_on)
                    | (go_big_quiet_want; refine quiet_pure (.agg cv) (fun w' hC => load45 rfl rfl hC.1 hcs) ?_; (simp only [Act.put, List.setIfInBounds_toArray, List.set_cons_zero, List.set_cons_succ]); go_big_quiet_on)
                    | (go_big_quiet_want; refine quiet_pure ?_ (fun w' hC => ?_) ?_; rotate_left; (focus (clear hC; go_simp; (try with_reducible rfl); done)); (simp only [Act.put, List.setIfInBounds_toArray, List.set_cons_zero, List.set_cons_succ]); go_big_quiet_on)
                    | (go_big_quiet_want; refine quiet_calls 24 #[.slice A5 j c5] (.agg cv) (fun w' hC => ?_) (fun w' hC => ?_) ?_; (focus (go_simp; done)); (focus (exact (HCT.out w' hC.2).mono fun e w1 h => ⟨h.1, row_below hC.1 h.2, hC.2.trans (h.2.mono hC.2.size)⟩)); (simp only [Act.put, List.setIfInBounds_toArray, List.set_cons_zero, List.set_cons_succ]); go_big_quiet_on)
                    | (go_big_quiet_want; refine quiet_calls 25 #[.int .i64 (k : Int)] (.int .i64 (-1)) (fun w' hC => ?_) (fun w' hC => ?_) ?_; (focus (go_simp; done)); (focus (exact (HBI.out w').mono fun e w1 h => ⟨h.1, h.2 ▸ hC⟩)); (simp only [Act.put, List.setIfInBounds_toArray, List.set_cons_zero, List.set_cons_succ]); go_big_quiet_on)
                    | (go_big_quiet_want; refine quiet_calls 21 #[] (.bool true) (fun w' hC => ?_) (fun w' hC => ?_) ?_; (focus (go_simp; done)); (focus (exact (lives w').mono fun e w1 h => ⟨h.1, row_below hC.1 h.2, hC.2.trans (h.2.mono hC.2.size)⟩)); (simp only [Act.put, List.setIfInBounds_toArray, List.set_cons_zero, List.set_cons_succ]); go_big_quiet_on))
                  refine wpQuiet_nil ?_
                  intro w9 hC
                  have K9 := hid (HB2.out.trans (hC.2.mono HB2.out.size))
                  clear hC
                  go_wp2_with fail
                  go_ret
                  exact ⟨rfl, K9.out⟩
              · have KK := KJ
                have e9 : bitsI sym = -1 := by have := bits_le sym; omega
                rw [e9] at HBI
                have y0' : decide (0 ≤ sym) = false := decide_eq_false y0
                have HCT := hid (show ∀ W, Below w2.heap.size w2 W → Calls Try.prog 24 #[.slice A5 j c5] W fun e w' => e = .returned (.agg (cntV X j)) ∧ Below W.heap.size W w' from fun W h => HCC.out W h)
                have hcs := cntV_size X j
                have he := cntV_same X j
                generalize cntV X j = cv at HCT hcs he KJ KK
                go_upto_region 23 with fail
                refine region_quiet_C (C := fun w' => w'.heap[w2.heap.size]? = some (.cells cv 45 (0, 0)) ∧ Below w2.heap.size w2 w') (by kernel_rfl) (by kernel_rfl) ⟨KK.out.blk, KK.out.below.drew⟩ ?_
                repeat (first
                  | go_big_quiet_skip
                  | (go_big_quiet_want; go_big_quiet_op; go_big_quiet_on)
                  | (go_big_quiet_want; refine quiet_pure (.agg cv) (fun w' hC => load45 rfl rfl hC.1 hcs) ?_; (simp only [Act.put, List.setIfInBounds_toArray, List.set_cons_zero, List.set_cons_succ]); go_big_quiet_on)
                  | (go_big_quiet_want; refine quiet_pure ?_ (fun w' hC => ?_) ?_; rotate_left; (focus (clear hC; go_simp; (try with_reducible rfl); done)); (simp only [Act.put, List.setIfInBounds_toArray, List.set_cons_zero, List.set_cons_succ]); go_big_quiet_on)
                  | (go_big_quiet_want; refine quiet_calls 24 #[.slice A5 j c5] (.agg cv) (fun w' hC => ?_) (fun w' hC => ?_) ?_; (focus (go_simp; done)); (focus (exact (HCT.out w' hC.2).mono fun e w1 h => ⟨h.1, row_below hC.1 h.2, hC.2.trans (h.2.mono hC.2.size)⟩)); (simp only [Act.put, List.setIfInBounds_toArray, List.set_cons_zero, List.set_cons_succ]); go_big_quiet_on)
                  | (go_big_quiet_want; refine quiet_calls 25 #[.int .i64 sym] (.int .i64 (-1)) (fun w' hC => ?_) (fun w' hC => ?_) ?_; (focus (go_simp; done)); (focus (exact (HBI.out w').mono fun e w1 h => ⟨h.1, h.2 ▸ hC⟩)); (simp only [Act.put, List.setIfInBounds_toArray, List.set_cons_zero, List.set_cons_succ]); go_big_quiet_on)
                  | (go_big_quiet_want; refine quiet_calls 21 #[] (.bool true) (fun w' hC => ?_) (fun w' hC => ?_) ?_; (focus (go_simp; done)); (focus (exact (lives w').mono fun e w1 h => ⟨h.1, row_below hC.1 h.2, hC.2.trans (h.2.mono hC.2.size)⟩)); (simp only [Act.put, List.setIfInBounds_toArray, List.set_cons_zero, List.set_cons_succ]); go_big_quiet_on))
                refine wpQuiet_nil ?_
                intro w9 hC
                have K9 := hid (HB2.out.trans (hC.2.mono HB2.out.size))
                clear hC
                go_wp2_with fail
                go_ret
                exact ⟨rfl, K9.out⟩
    · have HF := hid hF
      have HFB := hid (fineB_no hF)
      clear hF
      go_enter Try.func7, Try.ntmps7
      go_wp2_with fail
      refine (of_no A b off n c x _ HF.out hn4 HX.out).mono ?_
      rintro e w1 ⟨rfl, b1⟩
      have HB1 := hid b1
      clear b1
      go_wp2_with fail
      refine (refOf A b off n c x _ hn4 (HX.out.below HB1.out)).mono ?_
      rintro e w2 ⟨⟨v2, rfl, _⟩, b2⟩
      have HB2 := hid (HB1.out.trans (b2.mono HB1.out.size))
      have HX2 := hid (HX.out.below HB2.out)
      clear b2
      go_upto_region 6 with fail
      have HD := hid (show decide ((n : Int) ≤ 400) = fineB x n 0 from by simp only [fineB]; congr 1; simp; omega)
      rw [HD.out]
      go_loopw [7, 26] (fun f i wr => ∃ k : Nat, k ≤ n ∧ f = .bool (fineB x n k) ∧ i = .int .i64 k ∧ w2 = wr) (fun _ i _ => n - (intOf i).toNat)
      case atStart => exact ⟨0, Nat.zero_le _, rfl, rfl, rfl⟩
      case round =>
        obtain ⟨k, hk, rfl, rfl, rfl⟩ := hrel
        by_cases hlt : k < n
        · have hA := HX.out.ad (by omega)
          subst hA
          have c0 := HX2.out.at_ k hlt
          have HK := hid (show fineB x n (k + 1) = (fineB x n k && (decide (0 ≤ x k) && decide (x k ≤ 15))) from rfl)
          generalize x k = y at *
          cases hfb : fineB x n k with
          | false =>
            have HK2 := hid hfb
            clear hfb
            go_wp2_with fail
            go_roundw
            case rel => exact ⟨k + 1, by omega, by rw [HK.out, HK2.out]; rfl, by go_num, trivial⟩
            case measure => simp [intOf]; omega
          | true =>
            have HK2 := hid hfb
            clear hfb
            by_cases y0 : 0 ≤ y
            · by_cases y1 : y ≤ 15
              · go_wp2_with fail
                go_roundw
                case rel => exact ⟨k + 1, by omega, by rw [HK.out, HK2.out, decide_eq_true y0, decide_eq_true y1]; rfl, by go_num, trivial⟩
                case measure => simp [intOf]; omega
              · have y1' : decide (y ≤ 15) = false := decide_eq_false y1
                go_wp2_with fail
                go_roundw
                case rel => exact ⟨k + 1, by omega, by rw [HK.out, HK2.out, y1']; simp, by go_num, trivial⟩
                case measure => simp [intOf]; omega
            · have y0' : decide (0 ≤ y) = false := decide_eq_false y0
              go_wp2_with fail
              go_roundw
              case rel => exact ⟨k + 1, by omega, by rw [HK.out, HK2.out, y0']; simp, by go_num, trivial⟩
              case measure => simp [intOf]; omega
        · obtain rfl : k = n := by omega
          rw [HFB.out]
          clear hlt
          go_upto_region 14 with fail
          have K0 : Hid (One45 w2 (w2.alloc (.cells #[.int .i64 0, .int .i64 0, .int .i64 0, .int .i64 0, .int .i64 0, .int .i64 0, .int .i64 0, .int .i64 0, .int .i64 0, .int .i64 0, .int .i64 0, .int .i64 0, .int .i64 0, .int .i64 0, .int .i64 0, .int .i64 0, .int .i64 0, .int .i64 0, .int .i64 0] 45)) w2.heap.size (cntV (fun _ => 0) 0)) := hid ⟨by rw [cntV_zero]; exact heap_alloc_new _ _, (Below.refl _ _).alloc (Nat.le_refl _) _, Nat.le_refl _⟩
          generalize w2.alloc (.cells #[.int .i64 0, .int .i64 0, .int .i64 0, .int .i64 0, .int .i64 0, .int .i64 0, .int .i64 0, .int .i64 0, .int .i64 0, .int .i64 0, .int .i64 0, .int .i64 0, .int .i64 0, .int .i64 0, .int .i64 0, .int .i64 0, .int .i64 0, .int .i64 0, .int .i64 0] 45) = W0 at K0 ⊢
          go_loopw [44] (fun i wr => i = .int .i64 0 ∧ One45 w2 wr w2.heap.size (cntV (fun _ => 0) 0)) (fun _ _ => 0)
          case atStart => exact ⟨rfl, K0.out⟩
          case round =>
            obtain ⟨rfl, hone⟩ := hrel
            have KJ := hid hone
            clear hone
            have HCC := hid (fun W => count none 0 0 0 0 (fun _ => 0) (fun _ => 0) (fun _ => 0) W (by omega) (fun h => absurd h (by omega)) ⟨fun h => absurd h (by omega), fun k h => absurd h (by omega)⟩)
            by_cases y0 : 0 ≤ sym
            · obtain ⟨k, rfl⟩ := Int.eq_ofNat_of_zero_le y0
              by_cases y1 : (k : Int) ≤ 18
              · have hk : k < 19 := by omega
                have hki : (k : Int) < 19 := by omega
                have c9 := HNI.out k hk wr
                have KK := hid (KJ.out.step ((Below.refl wr.heap.size wr).alloc (Nat.le_refl _) (.cells #[.int .i64 0, .int .i64 0, .int .i64 0, .int .i64 0, .int .i64 0, .int .i64 0, .int .i64 0, .int .i64 0, .int .i64 0, .int .i64 0, .int .i64 0, .int .i64 0, .int .i64 0, .int .i64 0, .int .i64 0, .int .i64 0, .int .i64 2, .int .i64 3, .int .i64 7] 3)))
                generalize bitsI (k : Int) = q at *
                have HCT := hid (show ∀ W, Below w2.heap.size w2 W → Calls Try.prog 24 #[.slice none 0 0] W fun e w' => e = .returned (.agg (cntV (fun _ => 0) 0)) ∧ Below W.heap.size W w' from fun W h => HCC.out W)
                have hcs := cntV_size (fun _ => 0) 0
                have he := cntV_same (fun _ => 0) 0
                generalize cntV (fun _ => 0) 0 = cv at HCT hcs he KJ KK
                go_upto_region 23 with fail
                refine region_quiet_C (C := fun w' => w'.heap[w2.heap.size]? = some (.cells cv 45 (0, 0)) ∧ Below w2.heap.size w2 w') (by kernel_rfl) (by kernel_rfl) ⟨KK.out.blk, KK.out.below.drew⟩ ?_
                repeat (first
                  | go_big_quiet_skip
                  | (go_big_quiet_want; go_big_quiet_op; go_big_quiet_on)
                  | (go_big_quiet_want; refine quiet_pure (.agg cv) (fun w' hC => load45 rfl rfl hC.1 hcs) ?_; (simp only [Act.put, List.setIfInBounds_toArray, List.set_cons_zero, List.set_cons_succ]); go_big_quiet_on)
                  | (go_big_quiet_want; refine quiet_pure ?_ (fun w' hC => ?_) ?_; rotate_left; (focus (clear hC; go_simp; (try with_reducible rfl); done)); (simp only [Act.put, List.setIfInBounds_toArray, List.set_cons_zero, List.set_cons_succ]); go_big_quiet_on)
                  | (go_big_quiet_want; refine quiet_calls 24 #[.slice none 0 0] (.agg cv) (fun w' hC => ?_) (fun w' hC => ?_) ?_; (focus (go_simp; done)); (focus (exact (HCT.out w' hC.2).mono fun e w1 h => ⟨h.1, row_below hC.1 h.2, hC.2.trans (h.2.mono hC.2.size)⟩)); (simp only [Act.put, List.setIfInBounds_toArray, List.set_cons_zero, List.set_cons_succ]); go_big_quiet_on)
                  | (go_big_quiet_want; refine quiet_calls 25 #[.int .i64 (k : Int)] (.int .i64 q) (fun w' hC => ?_) (fun w' hC => ?_) ?_; (focus (go_simp; done)); (focus (exact (HBI.out w').mono fun e w1 h => ⟨h.1, h.2 ▸ hC⟩)); (simp only [Act.put, List.setIfInBounds_toArray, List.set_cons_zero, List.set_cons_succ]); go_big_quiet_on)
                  | (go_big_quiet_want; refine quiet_calls 21 #[] (.bool true) (fun w' hC => ?_) (fun w' hC => ?_) ?_; (focus (go_simp; done)); (focus (exact (lives w').mono fun e w1 h => ⟨h.1, row_below hC.1 h.2, hC.2.trans (h.2.mono hC.2.size)⟩)); (simp only [Act.put, List.setIfInBounds_toArray, List.set_cons_zero, List.set_cons_succ]); go_big_quiet_on))
                refine wpQuiet_nil ?_
                intro w9 hC
                have K9 := hid (HB2.out.trans (hC.2.mono HB2.out.size))
                clear hC
                go_wp2_with fail
                go_ret
                exact ⟨rfl, K9.out⟩
              · have KK := KJ
                have e9 : bitsI (k : Int) = -1 := by have := bits_le (k : Int); omega
                rw [e9] at HBI
                have y1' : decide ((k : Int) ≤ 18) = false := decide_eq_false y1
                have HCT := hid (show ∀ W, Below w2.heap.size w2 W → Calls Try.prog 24 #[.slice none 0 0] W fun e w' => e = .returned (.agg (cntV (fun _ => 0) 0)) ∧ Below W.heap.size W w' from fun W h => HCC.out W)
                have hcs := cntV_size (fun _ => 0) 0
                have he := cntV_same (fun _ => 0) 0
                generalize cntV (fun _ => 0) 0 = cv at HCT hcs he KJ KK
                go_upto_region 23 with fail
                refine region_quiet_C (C := fun w' => w'.heap[w2.heap.size]? = some (.cells cv 45 (0, 0)) ∧ Below w2.heap.size w2 w') (by kernel_rfl) (by kernel_rfl) ⟨KK.out.blk, KK.out.below.drew⟩ ?_
                repeat (first
                  | go_big_quiet_skip
                  | (go_big_quiet_want; go_big_quiet_op; go_big_quiet_on)
                  | (go_big_quiet_want; refine quiet_pure (.agg cv) (fun w' hC => load45 rfl rfl hC.1 hcs) ?_; (simp only [Act.put, List.setIfInBounds_toArray, List.set_cons_zero, List.set_cons_succ]); go_big_quiet_on)
                  | (go_big_quiet_want; refine quiet_pure ?_ (fun w' hC => ?_) ?_; rotate_left; (focus (clear hC; go_simp; (try with_reducible rfl); done)); (simp only [Act.put, List.setIfInBounds_toArray, List.set_cons_zero, List.set_cons_succ]); go_big_quiet_on)
                  | (go_big_quiet_want; refine quiet_calls 24 #[.slice none 0 0] (.agg cv) (fun w' hC => ?_) (fun w' hC => ?_) ?_; (focus (go_simp; done)); (focus (exact (HCT.out w' hC.2).mono fun e w1 h => ⟨h.1, row_below hC.1 h.2, hC.2.trans (h.2.mono hC.2.size)⟩)); (simp only [Act.put, List.setIfInBounds_toArray, List.set_cons_zero, List.set_cons_succ]); go_big_quiet_on)
                  | (go_big_quiet_want; refine quiet_calls 25 #[.int .i64 (k : Int)] (.int .i64 (-1)) (fun w' hC => ?_) (fun w' hC => ?_) ?_; (focus (go_simp; done)); (focus (exact (HBI.out w').mono fun e w1 h => ⟨h.1, h.2 ▸ hC⟩)); (simp only [Act.put, List.setIfInBounds_toArray, List.set_cons_zero, List.set_cons_succ]); go_big_quiet_on)
                  | (go_big_quiet_want; refine quiet_calls 21 #[] (.bool true) (fun w' hC => ?_) (fun w' hC => ?_) ?_; (focus (go_simp; done)); (focus (exact (lives w').mono fun e w1 h => ⟨h.1, row_below hC.1 h.2, hC.2.trans (h.2.mono hC.2.size)⟩)); (simp only [Act.put, List.setIfInBounds_toArray, List.set_cons_zero, List.set_cons_succ]); go_big_quiet_on))
                refine wpQuiet_nil ?_
                intro w9 hC
                have K9 := hid (HB2.out.trans (hC.2.mono HB2.out.size))
                clear hC
                go_wp2_with fail
                go_ret
                exact ⟨rfl, K9.out⟩
            · have KK := KJ
              have e9 : bitsI sym = -1 := by have := bits_le sym; omega
              rw [e9] at HBI
              have y0' : decide (0 ≤ sym) = false := decide_eq_false y0
              have HCT := hid (show ∀ W, Below w2.heap.size w2 W → Calls Try.prog 24 #[.slice none 0 0] W fun e w' => e = .returned (.agg (cntV (fun _ => 0) 0)) ∧ Below W.heap.size W w' from fun W h => HCC.out W)
              have hcs := cntV_size (fun _ => 0) 0
              have he := cntV_same (fun _ => 0) 0
              generalize cntV (fun _ => 0) 0 = cv at HCT hcs he KJ KK
              go_upto_region 23 with fail
              refine region_quiet_C (C := fun w' => w'.heap[w2.heap.size]? = some (.cells cv 45 (0, 0)) ∧ Below w2.heap.size w2 w') (by kernel_rfl) (by kernel_rfl) ⟨KK.out.blk, KK.out.below.drew⟩ ?_
              repeat (first
                | go_big_quiet_skip
                | (go_big_quiet_want; go_big_quiet_op; go_big_quiet_on)
                | (go_big_quiet_want; refine quiet_pure (.agg cv) (fun w' hC => load45 rfl rfl hC.1 hcs) ?_; (simp only [Act.put, List.setIfInBounds_toArray, List.set_cons_zero, List.set_cons_succ]); go_big_quiet_on)
                | (go_big_quiet_want; refine quiet_pure ?_ (fun w' hC => ?_) ?_; rotate_left; (focus (clear hC; go_simp; (try with_reducible rfl); done)); (simp only [Act.put, List.setIfInBounds_toArray, List.set_cons_zero, List.set_cons_succ]); go_big_quiet_on)
                | (go_big_quiet_want; refine quiet_calls 24 #[.slice none 0 0] (.agg cv) (fun w' hC => ?_) (fun w' hC => ?_) ?_; (focus (go_simp; done)); (focus (exact (HCT.out w' hC.2).mono fun e w1 h => ⟨h.1, row_below hC.1 h.2, hC.2.trans (h.2.mono hC.2.size)⟩)); (simp only [Act.put, List.setIfInBounds_toArray, List.set_cons_zero, List.set_cons_succ]); go_big_quiet_on)
                | (go_big_quiet_want; refine quiet_calls 25 #[.int .i64 sym] (.int .i64 (-1)) (fun w' hC => ?_) (fun w' hC => ?_) ?_; (focus (go_simp; done)); (focus (exact (HBI.out w').mono fun e w1 h => ⟨h.1, h.2 ▸ hC⟩)); (simp only [Act.put, List.setIfInBounds_toArray, List.set_cons_zero, List.set_cons_succ]); go_big_quiet_on)
                | (go_big_quiet_want; refine quiet_calls 21 #[] (.bool true) (fun w' hC => ?_) (fun w' hC => ?_) ?_; (focus (go_simp; done)); (focus (exact (lives w').mono fun e w1 h => ⟨h.1, row_below hC.1 h.2, hC.2.trans (h.2.mono hC.2.size)⟩)); (simp only [Act.put, List.setIfInBounds_toArray, List.set_cons_zero, List.set_cons_succ]); go_big_quiet_on))
              refine wpQuiet_nil ?_
              intro w9 hC
              have K9 := hid (HB2.out.trans (hC.2.mono HB2.out.size))
              clear hC
              go_wp2_with fail
              go_ret
              exact ⟨rfl, K9.out⟩
end Run
end Go.Proofs.Ytdjlkacmaflhfaa
