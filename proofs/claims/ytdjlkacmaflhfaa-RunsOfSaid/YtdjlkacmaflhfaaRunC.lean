/- RUNS: the row of any steps, as the document reads them. -/
import Derived.Test.YtdjlkacmaflhfaaRunB
namespace Go.Proofs.Ytdjlkacmaflhfaa
set_option linter.unusedVariables false
open Go.RowKit
open Go.Proofs.Runs
attribute [local go_sem ↓] Go.wp_at_zero Go.wp_at_succ
namespace Run
theorem Box.drewN {w W : World} {G T : Nat} {cs : Array Value} {v : Value} {o : List Int} (h : Box w W G T cs v o) (q : Nat) : Box w (W.drewN q) G T cs v o := ⟨h.blk, below_drewN h.below q, h.own⟩
theorem Box.drew {w W : World} {G T : Nat} {cs : Array Value} {v : Value} {o : List Int} (h : Box w W G T cs v o) : Box w W.drew G T cs v o := ⟨h.blk, h.below.drew, h.own.drew⟩
section
variable {P : Program} {C : World → Prop} {a : Act} {o : Oper}
theorem quiet_pure {K : Act → Prop} (v : Value) (h : ∀ w, C w → (execOp a.eval o).run P w = .ok (.value v) w) (hk : K (a.put o.dst v)) : o.quiet P a C K :=
  ⟨v, fun w hC => by unfold Oper.quietAt; rw [h w hC]; exact ⟨rfl, rfl⟩, hk⟩
theorem region_quiet_C {id : Nat} {Q : Exit → Act → World → Prop} {w : World} {l : List Oper} (hm : P.follows .mixedOrders = true) (hB : Region.lexB .any l.toArray = true) (hC : C { w with drawn := w.drawn + 1 })
    (h : wpQuiet P l.toArray C (fun a' => ∀ w', C w' → Q .normal a' w') l a) : (Code.region id l.toArray true).wp P Q a w :=
  wp_region_quiet (C := C) hm hB hC (by simpa using h)
theorem quiet_calls {K : Act → Prop} (f : FuncId) (args : Array Value) (v : Value) (h : ∀ w, C w → (execOp a.eval o).run P w = .ok (.enter f args) w) (hc : ∀ w, C w → Calls P f args w fun e w'' => e = .returned v ∧ C w'') (hk : K (a.put o.dst v)) : o.quiet P a C K :=
  ⟨v, fun w hC => by unfold Oper.quietAt; rw [h w hC]; exact ⟨rfl, hc w hC⟩, hk⟩
end
theorem nine_at (w : World) (k : Nat) (hk : k < 19) : (w.alloc (.cells #[.int .i64 0, .int .i64 0, .int .i64 0, .int .i64 0, .int .i64 0, .int .i64 0, .int .i64 0, .int .i64 0, .int .i64 0, .int .i64 0, .int .i64 0, .int .i64 0, .int .i64 0, .int .i64 0, .int .i64 0, .int .i64 0, .int .i64 2, .int .i64 3, .int .i64 7] 3)).cell? ⟨w.heap.size, k, none⟩ = some (.int .i64 (bitsI k)) := by
  rw [cell_of_row _ _ _ _ _ _ (heap_alloc_new _ _)]
  match k, hk with
  | 0, _ => rfl
  | 1, _ => rfl
  | 2, _ => rfl
  | 3, _ => rfl
  | 4, _ => rfl
  | 5, _ => rfl
  | 6, _ => rfl
  | 7, _ => rfl
  | 8, _ => rfl
  | 9, _ => rfl
  | 10, _ => rfl
  | 11, _ => rfl
  | 12, _ => rfl
  | 13, _ => rfl
  | 14, _ => rfl
  | 15, _ => rfl
  | 16, _ => rfl
  | 17, _ => rfl
  | 18, _ => rfl
  | k + 19, h => exact absurd h (by omega)
set_option maxRecDepth 100000 in
theorem refBits (s : Int) (w : World) : Calls Try.prog 39 #[.int .i64 s] w fun e w' => e = .returned (.int .i64 (bitsI s)) ∧ Below w.heap.size w w' := by
  by_cases h0 : 0 ≤ s
  · obtain ⟨k, rfl⟩ := Int.eq_ofNat_of_zero_le h0
    by_cases h1 : 18 < (k : Int)
    · have e : bitsI k = -1 := by have := bits_le k; omega
      rw [e]
      go_enter Try.func39, Try.ntmps39
      go_wp2_with fail
      go_ret
      exact ⟨rfl, Below.refl _ _⟩
    · have c0 := nine_at w k (by omega)
      have hk : (k : Int) < 19 := by omega
      generalize bitsI k = q at c0 ⊢
      go_enter Try.func39, Try.ntmps39
      go_wp2_with fail
      go_ret
      exact ⟨rfl, (Below.refl _ _).alloc (Nat.le_refl _) _⟩
  · have e : bitsI s = -1 := by have := bits_le s; omega
    rw [e]
    have h1 : s < 0 := by omega
    go_enter Try.func39, Try.ntmps39
    go_wp2_with fail
    go_ret
    exact ⟨rfl, Below.refl _ _⟩

set_option maxRecDepth 100000 in
set_option maxHeartbeats 4000000 in
theorem refBack (A : Option Addr) (b off n c : Nat) (x y z : Nat → Int) (w : World) (hn : n ≤ 1152921504606846976) (hA : 0 < n → A = some ⟨b, off, none⟩) (hs : StepsAt w b off n x y z) :
    Calls Try.prog 27 #[.slice A n c] w fun e w' => BackPost (rowT x y z n) w.heap.size e w' ∧ Below w.heap.size w w' := by
  have HS := hid hs
  have HA := hid hA
  clear hs hA
  obtain ⟨i0, hi, hz0, hz1, hz2⟩ := info_parts info3
  have HI := hid hi
  clear hi
  go_enter Try.func27, Try.ntmps27
  go_upto_region 3 with fail
  go_loopw [4, 14] (fun l i wr => ∃ (k : Nat) (o : List Int), k ≤ n ∧ i = .int .i64 k ∧ rowT x y z k = some o ∧ Own wr w.heap.size l o ∧ Below w.heap.size w wr) (fun _ i _ => n - (intOf i).toNat)
  case atStart => exact ⟨0, [], Nat.zero_le _, rfl, rfl, World.ownsRow_nil _ _ _ _, Below.refl _ _⟩
  case round =>
    obtain ⟨k, o, hk, rfl, hrun, hown, hB⟩ := hrel
    have HR := hid hrun
    have HO := hid hown
    have HB := hid hB
    clear hrun hown hB
    by_cases hlt : k < n
    · have hA := HA.out (by omega)
      subst hA
      obtain ⟨c0, c1, c2⟩ := (HS.out.below HB.out).at_ k hlt
      have HT := hid (fun h => rowT_succ (x := x) (y := y) (z := z) (k := k) (o := o) h)
      obtain ⟨A4, cap4, g4, rfl, hc4⟩ := HO.out.form
      have HC4 := hid hc4
      clear hc4
      have hlen := rowT_len k o HR.out
      have HOK : Hid (¬ okS (x k) (y k) (z k) → rowT x y z n = none) := hid fun hok => rowT_none (k := k + 1) ((HT.out HR.out).trans (oneT_bad hok)) n (by omega)
      generalize x k = s at *
      generalize y k = p at *
      generalize z k = m at *
      have HBI := hid (fun W => refBits s W)
      have HBL := hid (bits_le s)
      go_wp2_with fail
      obtain ⟨wo, rfl⟩ : ∃ wo : World, wo = wr := ⟨_, rfl⟩
      obtain ⟨N, hN⟩ : ∃ N : Nat, N = (max 0 (bitsI s)).toNat := ⟨_, rfl⟩
      have HNN := hid hN
      clear hN
      clear c0 c1 c2
      go_loopw [7, 8] (fun rm i wr => ∃ I P : Nat, I ≤ N ∧ P = 2 ^ I ∧ rm = .int .i64 P ∧ i = .int .i64 I ∧ Box w wr wo.heap.size 47 #[.int .i64 s, .int .i64 p, .int .i64 m] (.slice A4 o.length cap4) o) (fun _ i _ => N - (intOf i).toNat)
      case atStart => exact ⟨0, 1, Nat.zero_le _, rfl, rfl, rfl, box_new HB.out HO.out _ _⟩
      case round =>
        obtain ⟨I, P, hI, hP, rfl, rfl, hK⟩ := hrel
        have K0 := hid hK
        have HP := hid hP
        clear hK hP
        obtain ⟨d0, d1, d2⟩ := K0.out.cells
        by_cases hj : I < N
        · have hq : bitsI s = (N : Int) := by have := HNN.out; omega
          have hN7 : N ≤ 7 := by have := HBL.out; omega
          have HB9 := HBI
          rw [hq] at HB9
          have hP64 : P ≤ 64 := by rw [HP.out]; exact Nat.pow_le_pow_right (by decide) (show I ≤ 6 by omega)
          have HP2 := hid (show 2 * P = 2 ^ (I + 1) by rw [HP.out, Nat.pow_succ, Nat.mul_comm])
          have w0 : IntKind.i64.wrap (2 * (P : Int)) = ((2 * P : Nat) : Int) := by rw [IntWalk.i64_in _ (by omega)]; omega
          clear hq HBI
          go_wp2_with fail
          refine (HB9.out _).mono ?_
          rintro e w2 ⟨rfl, b2⟩
          have K1 := hid (K0.out.step b2)
          clear b2 d0 d1 d2
          go_wp2_with fail
          go_roundw
          case rel => exact ⟨I + 1, 2 * P, by omega, HP2.out, rfl, by go_num, K1.out⟩
          case measure => simp [intOf]; omega
        · obtain rfl : I = N := by omega
          clear hj hI
          by_cases hq1 : bitsI s = -1
          · have HB9 := HBI
            rw [hq1] at HB9
            clear HBI
            have HE := hid (HOK.out (fun h => (ok_bits h).1 hq1))
            clear HOK HT hq1
            go_wp2_with fail
            refine (HB9.out _).mono ?_
            rintro e w2 ⟨rfl, b2⟩
            have K1 := hid (K0.out.step b2)
            clear b2 d0 d1 d2
            have KC := hid K1.out.cells
            go_upto_region 10 with fail
            refine region_quiet_C (C := fun w' => (w'.cell? ⟨wo.heap.size, 0, none⟩ = some (.int .i64 s) ∧ w'.cell? ⟨wo.heap.size, 1, none⟩ = some (.int .i64 p) ∧ w'.cell? ⟨wo.heap.size, 2, none⟩ = some (.int .i64 m)) ∧ Box w w' wo.heap.size 47 #[.int .i64 s, .int .i64 p, .int .i64 m] _ o) (by kernel_rfl) (by kernel_rfl) ⟨KC.out, K1.out.drew⟩ ?_
            repeat (first
              | go_big_quiet_skip
              | (go_big_quiet_want; go_big_quiet_op; go_big_quiet_on)
              | (go_big_quiet_want; refine quiet_pure ?_ (fun w' hC => ?_) ?_; rotate_left; (focus (obtain ⟨⟨c0, c1, c2⟩, hr⟩ := hC; clear hr; go_simp; (try with_reducible rfl); done)); (simp only [Act.put, List.setIfInBounds_toArray, List.set_cons_zero, List.set_cons_succ]); go_big_quiet_on)
              | (go_big_quiet_want; refine quiet_calls 39 #[.int .i64 s] (.int .i64 (-1)) (fun w' hC => ?_) (fun w' hC => ?_) ?_; (focus (go_simp; done)); (focus (exact (HB9.out w').mono fun e w1 h => ⟨h.1, (hC.2.step h.2).cells, hC.2.step h.2⟩)); (simp only [Act.put, List.setIfInBounds_toArray, List.set_cons_zero, List.set_cons_succ]); go_big_quiet_on))
            refine wpQuiet_nil ?_
            intro w5 hC
            have K3 := hid hC.2
            clear hC
            go_wp2_with fail
            go_ret2
            exact ⟨post_none HE.out, K3.out.below⟩
          · have hPR : (P : Int) = room s := by
              have h1 := HBL.out
              have h2 := HNN.out
              have h3 := HP.out
              rcases h1 with ⟨e, r, _⟩ | ⟨e, r, _⟩ | ⟨e, r, _⟩ | ⟨e, r, _⟩ | ⟨e, r, _⟩ <;> rw [e] at h2 <;> rw [r]
              · obtain rfl : I = 0 := by omega
                rw [h3]; rfl
              · obtain rfl : I = 2 := by omega
                rw [h3]; rfl
              · obtain rfl : I = 3 := by omega
                rw [h3]; rfl
              · obtain rfl : I = 7 := by omega
                rw [h3]; rfl
              · exact absurd e hq1
            have hIq : (I : Int) = bitsI s := by have h1 := HBL.out; have h2 := HNN.out; omega
            by_cases hok : okS s p m
            rotate_left
            · have hno := not_ok hok
              have HB9 := HBI
              rw [← hIq] at HB9 hno
              rw [← hPR] at hno
              have HIQ := hid hIq
              have HPR := hid hPR
              have hI0 : decide ((I : Int) < 0) = false := decide_eq_false (by omega)
              clear hIq hPR hq1 HBI HBL
              by_cases hb : p = (I : Int)
              rotate_left
              · have e1 : (p == (I : Int)) = false := by simpa using hb
                have e2 : (p != (I : Int)) = true := by simpa using hb
                clear hno
                have HE := hid (HOK.out (fun h => hok h))
                clear HOK HT hok
                go_wp2_with fail
                refine (HB9.out _).mono ?_
                rintro e w2 ⟨rfl, b2⟩
                have K1 := hid (K0.out.step b2)
                clear b2 d0 d1 d2
                have KC := hid K1.out.cells
                go_upto_region 10 with fail
                refine region_quiet_C (C := fun w' => (w'.cell? ⟨wo.heap.size, 0, none⟩ = some (.int .i64 s) ∧ w'.cell? ⟨wo.heap.size, 1, none⟩ = some (.int .i64 p) ∧ w'.cell? ⟨wo.heap.size, 2, none⟩ = some (.int .i64 m)) ∧ Box w w' wo.heap.size 47 #[.int .i64 s, .int .i64 p, .int .i64 m] _ o) (by kernel_rfl) (by kernel_rfl) ⟨KC.out, K1.out.drew⟩ ?_
                repeat (first
                  | go_big_quiet_skip
                  | (go_big_quiet_want; go_big_quiet_op; go_big_quiet_on)
                  | (go_big_quiet_want; refine quiet_pure ?_ (fun w' hC => ?_) ?_; rotate_left; (focus (obtain ⟨⟨c0, c1, c2⟩, hr⟩ := hC; clear hr; go_simp; (try with_reducible rfl); done)); (simp only [Act.put, List.setIfInBounds_toArray, List.set_cons_zero, List.set_cons_succ]); go_big_quiet_on)
                  | (go_big_quiet_want; refine quiet_calls 39 #[.int .i64 s] (.int .i64 (I : Int)) (fun w' hC => ?_) (fun w' hC => ?_) ?_; (focus (go_simp; done)); (focus (exact (HB9.out w').mono fun e w1 h => ⟨h.1, (hC.2.step h.2).cells, hC.2.step h.2⟩)); (simp only [Act.put, List.setIfInBounds_toArray, List.set_cons_zero, List.set_cons_succ]); go_big_quiet_on))
                refine wpQuiet_nil ?_
                intro w5 hC
                have K3 := hid hC.2
                clear hC
                go_wp2_with fail
                go_ret2
                exact ⟨post_none HE.out, K3.out.below⟩
              · subst hb
                by_cases hm : m < 0
                · clear hno
                  have HE := hid (HOK.out (fun h => hok h))
                  clear HOK HT hok
                  go_wp2_with fail
                  refine (HB9.out _).mono ?_
                  rintro e w2 ⟨rfl, b2⟩
                  have K1 := hid (K0.out.step b2)
                  clear b2 d0 d1 d2
                  have KC := hid K1.out.cells
                  go_upto_region 10 with fail
                  refine region_quiet_C (C := fun w' => (w'.cell? ⟨wo.heap.size, 0, none⟩ = some (.int .i64 s) ∧ w'.cell? ⟨wo.heap.size, 1, none⟩ = some (.int .i64 (I : Int)) ∧ w'.cell? ⟨wo.heap.size, 2, none⟩ = some (.int .i64 m)) ∧ Box w w' wo.heap.size 47 #[.int .i64 s, .int .i64 (I : Int), .int .i64 m] _ o) (by kernel_rfl) (by kernel_rfl) ⟨KC.out, K1.out.drew⟩ ?_
                  repeat (first
                    | go_big_quiet_skip
                    | (go_big_quiet_want; go_big_quiet_op; go_big_quiet_on)
                    | (go_big_quiet_want; refine quiet_pure ?_ (fun w' hC => ?_) ?_; rotate_left; (focus (obtain ⟨⟨c0, c1, c2⟩, hr⟩ := hC; clear hr; go_simp; (try with_reducible rfl); done)); (simp only [Act.put, List.setIfInBounds_toArray, List.set_cons_zero, List.set_cons_succ]); go_big_quiet_on)
                    | (go_big_quiet_want; refine quiet_calls 39 #[.int .i64 s] (.int .i64 (I : Int)) (fun w' hC => ?_) (fun w' hC => ?_) ?_; (focus (go_simp; done)); (focus (exact (HB9.out w').mono fun e w1 h => ⟨h.1, (hC.2.step h.2).cells, hC.2.step h.2⟩)); (simp only [Act.put, List.setIfInBounds_toArray, List.set_cons_zero, List.set_cons_succ]); go_big_quiet_on))
                  refine wpQuiet_nil ?_
                  intro w5 hC
                  have K3 := hid hC.2
                  clear hC
                  go_wp2_with fail
                  go_ret2
                  exact ⟨post_none HE.out, K3.out.below⟩
                · have hm2 : (P : Int) ≤ m := by omega
                  have hm3 : decide (m < 0) = false := decide_eq_false hm
                  clear hno
                  have HE := hid (HOK.out (fun h => hok h))
                  clear HOK HT hok
                  go_wp2_with fail
                  refine (HB9.out _).mono ?_
                  rintro e w2 ⟨rfl, b2⟩
                  have K1 := hid (K0.out.step b2)
                  clear b2 d0 d1 d2
                  have KC := hid K1.out.cells
                  go_upto_region 10 with fail
                  refine region_quiet_C (C := fun w' => (w'.cell? ⟨wo.heap.size, 0, none⟩ = some (.int .i64 s) ∧ w'.cell? ⟨wo.heap.size, 1, none⟩ = some (.int .i64 (I : Int)) ∧ w'.cell? ⟨wo.heap.size, 2, none⟩ = some (.int .i64 m)) ∧ Box w w' wo.heap.size 47 #[.int .i64 s, .int .i64 (I : Int), .int .i64 m] _ o) (by kernel_rfl) (by kernel_rfl) ⟨KC.out, K1.out.drew⟩ ?_
                  repeat (first
                    | go_big_quiet_skip
                    | (go_big_quiet_want; go_big_quiet_op; go_big_quiet_on)
                    | (go_big_quiet_want; refine quiet_pure ?_ (fun w' hC => ?_) ?_; rotate_left; (focus (obtain ⟨⟨c0, c1, c2⟩, hr⟩ := hC; clear hr; go_simp; (try with_reducible rfl); done)); (simp only [Act.put, List.setIfInBounds_toArray, List.set_cons_zero, List.set_cons_succ]); go_big_quiet_on)
                    | (go_big_quiet_want; refine quiet_calls 39 #[.int .i64 s] (.int .i64 (I : Int)) (fun w' hC => ?_) (fun w' hC => ?_) ?_; (focus (go_simp; done)); (focus (exact (HB9.out w').mono fun e w1 h => ⟨h.1, (hC.2.step h.2).cells, hC.2.step h.2⟩)); (simp only [Act.put, List.setIfInBounds_toArray, List.set_cons_zero, List.set_cons_succ]); go_big_quiet_on))
                  refine wpQuiet_nil ?_
                  intro w5 hC
                  have K3 := hid hC.2
                  clear hC
                  go_wp2_with fail
                  go_ret2
                  exact ⟨post_none HE.out, K3.out.below⟩
            · have HB9 := HBI
              have HPR := hid hPR
              have HIQ := hid hIq
              clear HBI hq1
              have hok' := hok
              rcases hok' with ⟨s0, s1, rfl, rfl⟩ | ⟨rfl, rfl, s0, s1⟩ | ⟨rfl, rfl, s0, s1⟩ | ⟨rfl, rfl, s0, s1⟩
              · rw [show bitsI s = 0 from if_pos ⟨s0, s1⟩] at hIq HB9
                rw [show room s = 1 from if_pos ⟨s0, s1⟩] at hPR
                have hp2 : P = 1 := by omega
                have hi2 : I = 0 := by omega
                subst hp2 hi2
                clear hIq hPR HOK HBL HNN HP HPR HIQ
                have n16 : (s == 16) = false := by rw [beq_eq_false_iff_ne]; omega
                have n17 : (s == 17) = false := by rw [beq_eq_false_iff_ne]; omega
                have n18 : (s == 18) = false := by rw [beq_eq_false_iff_ne]; omega
                obtain ⟨M, hM1⟩ : ∃ M : Nat, M = 1 := ⟨1, rfl⟩
                have hM : manyI s 0 = (M : Int) := by have := many_cases s 0; omega
                go_wp2_with fail
                refine (HB9.out _).mono ?_
                rintro e w2 ⟨rfl, b2⟩
                have K1 := hid (K0.out.step b2)
                clear b2 d0 d1 d2
                have KC := hid K1.out.cells
                go_upto_region 10 with fail
                refine region_quiet_C (C := fun w' => (w'.cell? ⟨wo.heap.size, 0, none⟩ = some (.int .i64 s) ∧ w'.cell? ⟨wo.heap.size, 1, none⟩ = some (.int .i64 (0 : Int)) ∧ w'.cell? ⟨wo.heap.size, 2, none⟩ = some (.int .i64 (0 : Int))) ∧ Box w w' wo.heap.size 47 #[.int .i64 s, .int .i64 (0 : Int), .int .i64 (0 : Int)] _ o) (by kernel_rfl) (by kernel_rfl) ⟨KC.out, K1.out.drew⟩ ?_
                repeat (first
                  | go_big_quiet_skip
                  | (go_big_quiet_want; go_big_quiet_op; go_big_quiet_on)
                  | (go_big_quiet_want; refine quiet_pure ?_ (fun w' hC => ?_) ?_; rotate_left; (focus (obtain ⟨⟨c0, c1, c2⟩, hr⟩ := hC; clear hr; go_simp; (try with_reducible rfl); done)); (simp only [Act.put, List.setIfInBounds_toArray, List.set_cons_zero, List.set_cons_succ]); go_big_quiet_on)
                  | (go_big_quiet_want; refine quiet_calls 39 #[.int .i64 s] (.int .i64 0) (fun w' hC => ?_) (fun w' hC => ?_) ?_; (focus (go_simp; done)); (focus (exact (HB9.out w').mono fun e w1 h => ⟨h.1, (hC.2.step h.2).cells, hC.2.step h.2⟩)); (simp only [Act.put, List.setIfInBounds_toArray, List.set_cons_zero, List.set_cons_succ]); go_big_quiet_on))
                refine wpQuiet_nil ?_
                intro w5 hC
                have K3 := hid hC.2
                clear hC
                obtain ⟨d0, d1, d2⟩ := K3.out.cells
                go_upto_region 12 with fail
                go_quiet (fail)
                go_upto_region 25 with fail
                go_loopw [4, 11] (fun l j wr => ∃ J : Nat, J ≤ M ∧ j = .int .i64 J ∧ Own wr w.heap.size l (o ++ List.replicate J (s : Int)) ∧ Below w.heap.size w wr) (fun _ j _ => M - (intOf j).toNat)
                case atStart => exact ⟨0, Nat.zero_le _, rfl, by rw [show List.replicate 0 (s : Int) = [] from rfl, List.append_nil]; exact (K3.out.drewN _).own, (K3.out.drewN _).below⟩
                case round =>
                  obtain ⟨J, hJ, rfl, hown, hB'⟩ := hrel
                  have HO' := hid hown
                  have HB' := hid hB'
                  clear hown hB'
                  by_cases hj : J < M
                  · have hz := HB'.out.size
                    go_wp2_with (at_builtin; refine wpList_append_own _ rfl _ _ 40 rfl w.heap.size 3 i0 (.int .i64 0) 1 8 und40 HI.out hz0 hz1 hz2 rfl (by decide) _ _ _ rfl (HO'.out.alloc _) ⟨wr.heap.size, 0, none⟩ 1 1 [.int .i64 s] rfl rfl (World.news_of_block (heap_alloc_new _ _)) (by simp [Value.oneCell']) (by simp [maxLen]; omega) (by simp; omega) (by simp; omega) ?_; intro v' w4 hown4 hgrow4 _)
                    have R := hid (app_next HO'.out HB'.out hown4 hgrow4)
                    clear hown4 hgrow4 hz
                    go_wp2_with fail
                    go_roundw
                    case rel => exact ⟨J + 1, by omega, by go_num, R.out.1, R.out.2⟩
                    case measure => simp [intOf]; omega
                  · obtain rfl : J = M := by omega
                    clear hj
                    obtain ⟨A5, cap5, g5, hv5, _⟩ := HO'.out.form
                    rw [show (o ++ List.replicate J (s : Int)).length = o.length + J from by simp] at hv5
                    subst hv5
                    by_cases hf : 400 < (o.length : Int) + (J : Int)
                    · have HE := hid (rowT_none (k := k + 1) ((HT.out HR.out).trans (oneT_full (by rw [hM]; exact hf))) n (by omega))
                      clear HT hM
                      go_wp2_with fail
                      go_ret2
                      exact ⟨post_none HE.out, HB'.out⟩
                    · have HN := hid ((HT.out HR.out).trans (oneT_ok hok (fun c => absurd c.1 (by omega)) (by rw [hM]; omega)))
                      rw [hM, show valI o _ = s from (if_neg (by omega)).trans (if_pos (by omega))] at HN
                      have HM1 : (J : Int).toNat = J := by simp
                      rw [HM1] at HN
                      clear HM1 HT hM
                      go_wp2_with fail
                      go_roundw
                      case rel => exact ⟨k + 1, _, by omega, by go_num, HN.out, HO'.out, HB'.out⟩
                      case measure => simp [intOf]; omega
              · by_cases h0 : o.length = 0
                · have HE := hid (rowT_none (k := k + 1) ((HT.out HR.out).trans (oneT_head rfl h0)) n (by omega))
                  have g0 : (o.length : Int) = 0 := by omega
                  clear HT
                  have m0 : decide (m < 0) = false := decide_eq_false (by omega)
                  have m1 : decide ((4 : Int) ≤ m) = false := decide_eq_false (by omega)
                  rw [show bitsI 16 = 2 from rfl] at hIq HB9
                  rw [show room 16 = 4 from rfl] at hPR
                  have hp2 : P = 4 := by omega
                  have hi2 : I = 2 := by omega
                  subst hp2 hi2
                  clear hIq hPR HOK HBL HNN HP HPR HIQ
                  go_wp2_with fail
                  refine (HB9.out _).mono ?_
                  rintro e w2 ⟨rfl, b2⟩
                  have K1 := hid (K0.out.step b2)
                  clear b2 d0 d1 d2
                  have KC := hid K1.out.cells
                  go_upto_region 10 with fail
                  refine region_quiet_C (C := fun w' => (w'.cell? ⟨wo.heap.size, 0, none⟩ = some (.int .i64 (16 : Int)) ∧ w'.cell? ⟨wo.heap.size, 1, none⟩ = some (.int .i64 (2 : Int)) ∧ w'.cell? ⟨wo.heap.size, 2, none⟩ = some (.int .i64 m)) ∧ Box w w' wo.heap.size 47 #[.int .i64 (16 : Int), .int .i64 (2 : Int), .int .i64 m] _ o) (by kernel_rfl) (by kernel_rfl) ⟨KC.out, K1.out.drew⟩ ?_
                  repeat (first
                    | go_big_quiet_skip
                    | (go_big_quiet_want; go_big_quiet_op; go_big_quiet_on)
                    | (go_big_quiet_want; refine quiet_pure ?_ (fun w' hC => ?_) ?_; rotate_left; (focus (obtain ⟨⟨c0, c1, c2⟩, hr⟩ := hC; clear hr; go_simp; (try with_reducible rfl); done)); (simp only [Act.put, List.setIfInBounds_toArray, List.set_cons_zero, List.set_cons_succ]); go_big_quiet_on)
                    | (go_big_quiet_want; refine quiet_calls 39 #[.int .i64 (16 : Int)] (.int .i64 2) (fun w' hC => ?_) (fun w' hC => ?_) ?_; (focus (go_simp; done)); (focus (exact (HB9.out w').mono fun e w1 h => ⟨h.1, (hC.2.step h.2).cells, hC.2.step h.2⟩)); (simp only [Act.put, List.setIfInBounds_toArray, List.set_cons_zero, List.set_cons_succ]); go_big_quiet_on))
                  refine wpQuiet_nil ?_
                  intro w5 hC
                  have K3 := hid hC.2
                  clear hC
                  obtain ⟨d0, d1, d2⟩ := K3.out.cells
                  go_upto_region 12 with fail
                  go_quiet (fail)
                  go_wp2_with fail
                  go_ret2
                  exact ⟨post_none HE.out, below_drewN K3.out.below _⟩
                · have g0 : ((o.length : Int) == 0) = false := by rw [beq_eq_false_iff_ne]; omega
                  obtain ⟨q, hq⟩ : ∃ q, q = o.getD (o.length - 1) 0 := ⟨_, rfl⟩
                  have HQ := hid hq
                  clear hq
                  obtain ⟨rfl, _⟩ := HC4.out (o.length - 1) (by omega)
                  have w1 : IntKind.i64.wrap ((o.length : Int) - 1) = ((o.length - 1 : Nat) : Int) := by rw [IntWalk.i64_in _ (by omega)]; omega
                  have w2 : ((o.length - 1 : Nat) : Int) < (o.length : Int) := by omega
                  rw [show bitsI 16 = 2 from rfl] at hIq HB9
                  rw [show room 16 = 4 from rfl] at hPR
                  have hp2 : P = 4 := by omega
                  have hi2 : I = 2 := by omega
                  subst hp2 hi2
                  clear hIq hPR HOK HBL HNN HP HPR HIQ
                  obtain ⟨M, hM⟩ : ∃ M : Nat, manyI 16 m = (M : Int) := ⟨(manyI 16 m).toNat, by have := ok_many hok; omega⟩
                  have hmm := ok_many hok
                  have w0 : IntKind.i64.wrap (3 + m) = (M : Int) := by rw [IntWalk.i64_in _ (by omega), ← hM]; rfl
                  rw [hM] at hmm
                  have m0 : decide (m < 0) = false := decide_eq_false (by omega)
                  have m1 : decide ((4 : Int) ≤ m) = false := decide_eq_false (by omega)
                  go_wp2_with fail
                  refine (HB9.out _).mono ?_
                  rintro e w2 ⟨rfl, b2⟩
                  have K1 := hid (K0.out.step b2)
                  clear b2 d0 d1 d2
                  have KC := hid K1.out.cells
                  go_upto_region 10 with fail
                  refine region_quiet_C (C := fun w' => (w'.cell? ⟨wo.heap.size, 0, none⟩ = some (.int .i64 (16 : Int)) ∧ w'.cell? ⟨wo.heap.size, 1, none⟩ = some (.int .i64 (2 : Int)) ∧ w'.cell? ⟨wo.heap.size, 2, none⟩ = some (.int .i64 m)) ∧ Box w w' wo.heap.size 47 #[.int .i64 (16 : Int), .int .i64 (2 : Int), .int .i64 m] _ o) (by kernel_rfl) (by kernel_rfl) ⟨KC.out, K1.out.drew⟩ ?_
                  repeat (first
                    | go_big_quiet_skip
                    | (go_big_quiet_want; go_big_quiet_op; go_big_quiet_on)
                    | (go_big_quiet_want; refine quiet_pure ?_ (fun w' hC => ?_) ?_; rotate_left; (focus (obtain ⟨⟨c0, c1, c2⟩, hr⟩ := hC; clear hr; go_simp; (try with_reducible rfl); done)); (simp only [Act.put, List.setIfInBounds_toArray, List.set_cons_zero, List.set_cons_succ]); go_big_quiet_on)
                    | (go_big_quiet_want; refine quiet_calls 39 #[.int .i64 (16 : Int)] (.int .i64 2) (fun w' hC => ?_) (fun w' hC => ?_) ?_; (focus (go_simp; done)); (focus (exact (HB9.out w').mono fun e w1 h => ⟨h.1, (hC.2.step h.2).cells, hC.2.step h.2⟩)); (simp only [Act.put, List.setIfInBounds_toArray, List.set_cons_zero, List.set_cons_succ]); go_big_quiet_on))
                  refine wpQuiet_nil ?_
                  intro w5 hC
                  have K3 := hid hC.2
                  clear hC
                  obtain ⟨d0, d1, d2⟩ := K3.out.cells
                  have e4 : w5.cell? ⟨g4, o.length - 1, none⟩ = some (.int .i64 q) := by rw [HQ.out]; exact K3.out.own.at_ (o.length - 1) (by omega)
                  go_upto_region 12 with fail
                  go_quiet (fail)
                  go_upto_region 25 with fail
                  go_loopw [4, 11] (fun l j wr => ∃ J : Nat, J ≤ M ∧ j = .int .i64 J ∧ Own wr w.heap.size l (o ++ List.replicate J (q : Int)) ∧ Below w.heap.size w wr) (fun _ j _ => M - (intOf j).toNat)
                  case atStart => exact ⟨0, Nat.zero_le _, rfl, by rw [show List.replicate 0 (q : Int) = [] from rfl, List.append_nil]; exact (K3.out.drewN _).own, (K3.out.drewN _).below⟩
                  case round =>
                    obtain ⟨J, hJ, rfl, hown, hB'⟩ := hrel
                    have HO' := hid hown
                    have HB' := hid hB'
                    clear hown hB'
                    by_cases hj : J < M
                    · have hz := HB'.out.size
                      go_wp2_with (at_builtin; refine wpList_append_own _ rfl _ _ 40 rfl w.heap.size 3 i0 (.int .i64 0) 1 8 und40 HI.out hz0 hz1 hz2 rfl (by decide) _ _ _ rfl (HO'.out.alloc _) ⟨wr.heap.size, 0, none⟩ 1 1 [.int .i64 q] rfl rfl (World.news_of_block (heap_alloc_new _ _)) (by simp [Value.oneCell']) (by simp [maxLen]; omega) (by simp; omega) (by simp; omega) ?_; intro v' w4 hown4 hgrow4 _)
                      have R := hid (app_next HO'.out HB'.out hown4 hgrow4)
                      clear hown4 hgrow4 hz
                      go_wp2_with fail
                      go_roundw
                      case rel => exact ⟨J + 1, by omega, by go_num, R.out.1, R.out.2⟩
                      case measure => simp [intOf]; omega
                    · obtain rfl : J = M := by omega
                      clear hj
                      obtain ⟨A5, cap5, g5, hv5, _⟩ := HO'.out.form
                      rw [show (o ++ List.replicate J (q : Int)).length = o.length + J from by simp] at hv5
                      subst hv5
                      by_cases hf : 400 < (o.length : Int) + (J : Int)
                      · have HE := hid (rowT_none (k := k + 1) ((HT.out HR.out).trans (oneT_full (by rw [hM]; exact hf))) n (by omega))
                        clear HT hM
                        go_wp2_with fail
                        go_ret2
                        exact ⟨post_none HE.out, HB'.out⟩
                      · have HN := hid ((HT.out HR.out).trans (oneT_ok hok (fun c => h0 c.2) (by rw [hM]; omega)))
                        rw [hM, show valI o _ = q from by rw [HQ.out]; rfl] at HN
                        have HM1 : (J : Int).toNat = J := by simp
                        rw [HM1] at HN
                        clear HM1 HT hM
                        go_wp2_with fail
                        go_roundw
                        case rel => exact ⟨k + 1, _, by omega, by go_num, HN.out, HO'.out, HB'.out⟩
                        case measure => simp [intOf]; omega
              · rw [show bitsI 17 = 3 from rfl] at hIq HB9
                rw [show room 17 = 8 from rfl] at hPR
                have hp2 : P = 8 := by omega
                have hi2 : I = 3 := by omega
                subst hp2 hi2
                clear hIq hPR HOK HBL HNN HP HPR HIQ
                obtain ⟨M, hM⟩ : ∃ M : Nat, manyI 17 m = (M : Int) := ⟨(manyI 17 m).toNat, by have := ok_many hok; omega⟩
                have hmm := ok_many hok
                have w0 : IntKind.i64.wrap (3 + m) = (M : Int) := by rw [IntWalk.i64_in _ (by omega), ← hM]; rfl
                rw [hM] at hmm
                have m0 : decide (m < 0) = false := decide_eq_false (by omega)
                have m1 : decide ((8 : Int) ≤ m) = false := decide_eq_false (by omega)
                go_wp2_with fail
                refine (HB9.out _).mono ?_
                rintro e w2 ⟨rfl, b2⟩
                have K1 := hid (K0.out.step b2)
                clear b2 d0 d1 d2
                have KC := hid K1.out.cells
                go_upto_region 10 with fail
                refine region_quiet_C (C := fun w' => (w'.cell? ⟨wo.heap.size, 0, none⟩ = some (.int .i64 (17 : Int)) ∧ w'.cell? ⟨wo.heap.size, 1, none⟩ = some (.int .i64 (3 : Int)) ∧ w'.cell? ⟨wo.heap.size, 2, none⟩ = some (.int .i64 m)) ∧ Box w w' wo.heap.size 47 #[.int .i64 (17 : Int), .int .i64 (3 : Int), .int .i64 m] _ o) (by kernel_rfl) (by kernel_rfl) ⟨KC.out, K1.out.drew⟩ ?_
                repeat (first
                  | go_big_quiet_skip
                  | (go_big_quiet_want; go_big_quiet_op; go_big_quiet_on)
                  | (go_big_quiet_want; refine quiet_pure ?_ (fun w' hC => ?_) ?_; rotate_left; (focus (obtain ⟨⟨c0, c1, c2⟩, hr⟩ := hC; clear hr; go_simp; (try with_reducible rfl); done)); (simp only [Act.put, List.setIfInBounds_toArray, List.set_cons_zero, List.set_cons_succ]); go_big_quiet_on)
                  | (go_big_quiet_want; refine quiet_calls 39 #[.int .i64 (17 : Int)] (.int .i64 3) (fun w' hC => ?_) (fun w' hC => ?_) ?_; (focus (go_simp; done)); (focus (exact (HB9.out w').mono fun e w1 h => ⟨h.1, (hC.2.step h.2).cells, hC.2.step h.2⟩)); (simp only [Act.put, List.setIfInBounds_toArray, List.set_cons_zero, List.set_cons_succ]); go_big_quiet_on))
                refine wpQuiet_nil ?_
                intro w5 hC
                have K3 := hid hC.2
                clear hC
                obtain ⟨d0, d1, d2⟩ := K3.out.cells
                go_upto_region 12 with fail
                go_quiet (fail)
                go_upto_region 25 with fail
                go_loopw [4, 11] (fun l j wr => ∃ J : Nat, J ≤ M ∧ j = .int .i64 J ∧ Own wr w.heap.size l (o ++ List.replicate J (0 : Int)) ∧ Below w.heap.size w wr) (fun _ j _ => M - (intOf j).toNat)
                case atStart => exact ⟨0, Nat.zero_le _, rfl, by rw [show List.replicate 0 (0 : Int) = [] from rfl, List.append_nil]; exact (K3.out.drewN _).own, (K3.out.drewN _).below⟩
                case round =>
                  obtain ⟨J, hJ, rfl, hown, hB'⟩ := hrel
                  have HO' := hid hown
                  have HB' := hid hB'
                  clear hown hB'
                  by_cases hj : J < M
                  · have hz := HB'.out.size
                    go_wp2_with (at_builtin; refine wpList_append_own _ rfl _ _ 40 rfl w.heap.size 3 i0 (.int .i64 0) 1 8 und40 HI.out hz0 hz1 hz2 rfl (by decide) _ _ _ rfl (HO'.out.alloc _) ⟨wr.heap.size, 0, none⟩ 1 1 [.int .i64 0] rfl rfl (World.news_of_block (heap_alloc_new _ _)) (by simp [Value.oneCell']) (by simp [maxLen]; omega) (by simp; omega) (by simp; omega) ?_; intro v' w4 hown4 hgrow4 _)
                    have R := hid (app_next HO'.out HB'.out hown4 hgrow4)
                    clear hown4 hgrow4 hz
                    go_wp2_with fail
                    go_roundw
                    case rel => exact ⟨J + 1, by omega, by go_num, R.out.1, R.out.2⟩
                    case measure => simp [intOf]; omega
                  · obtain rfl : J = M := by omega
                    clear hj
                    obtain ⟨A5, cap5, g5, hv5, _⟩ := HO'.out.form
                    rw [show (o ++ List.replicate J (0 : Int)).length = o.length + J from by simp] at hv5
                    subst hv5
                    by_cases hf : 400 < (o.length : Int) + (J : Int)
                    · have HE := hid (rowT_none (k := k + 1) ((HT.out HR.out).trans (oneT_full (by rw [hM]; exact hf))) n (by omega))
                      clear HT hM
                      go_wp2_with fail
                      go_ret2
                      exact ⟨post_none HE.out, HB'.out⟩
                    · have HN := hid ((HT.out HR.out).trans (oneT_ok hok (fun c => absurd c.1 (by decide)) (by rw [hM]; omega)))
                      rw [hM, show valI o _ = 0 from rfl] at HN
                      have HM1 : (J : Int).toNat = J := by simp
                      rw [HM1] at HN
                      clear HM1 HT hM
                      go_wp2_with fail
                      go_roundw
                      case rel => exact ⟨k + 1, _, by omega, by go_num, HN.out, HO'.out, HB'.out⟩
                      case measure => simp [intOf]; omega
              · rw [show bitsI 18 = 7 from rfl] at hIq HB9
                rw [show room 18 = 128 from rfl] at hPR
                have hp2 : P = 128 := by omega
                have hi2 : I = 7 := by omega
                subst hp2 hi2
                clear hIq hPR HOK HBL HNN HP HPR HIQ
                obtain ⟨M, hM⟩ : ∃ M : Nat, manyI 18 m = (M : Int) := ⟨(manyI 18 m).toNat, by have := ok_many hok; omega⟩
                have hmm := ok_many hok
                have w0 : IntKind.i64.wrap (11 + m) = (M : Int) := by rw [IntWalk.i64_in _ (by omega), ← hM]; rfl
                rw [hM] at hmm
                have m0 : decide (m < 0) = false := decide_eq_false (by omega)
                have m1 : decide ((128 : Int) ≤ m) = false := decide_eq_false (by omega)
                go_wp2_with fail
                refine (HB9.out _).mono ?_
                rintro e w2 ⟨rfl, b2⟩
                have K1 := hid (K0.out.step b2)
                clear b2 d0 d1 d2
                have KC := hid K1.out.cells
                go_upto_region 10 with fail
                refine region_quiet_C (C := fun w' => (w'.cell? ⟨wo.heap.size, 0, none⟩ = some (.int .i64 (18 : Int)) ∧ w'.cell? ⟨wo.heap.size, 1, none⟩ = some (.int .i64 (7 : Int)) ∧ w'.cell? ⟨wo.heap.size, 2, none⟩ = some (.int .i64 m)) ∧ Box w w' wo.heap.size 47 #[.int .i64 (18 : Int), .int .i64 (7 : Int), .int .i64 m] _ o) (by kernel_rfl) (by kernel_rfl) ⟨KC.out, K1.out.drew⟩ ?_
                repeat (first
                  | go_big_quiet_skip
                  | (go_big_quiet_want; go_big_quiet_op; go_big_quiet_on)
                  | (go_big_quiet_want; refine quiet_pure ?_ (fun w' hC => ?_) ?_; rotate_left; (focus (obtain ⟨⟨c0, c1, c2⟩, hr⟩ := hC; clear hr; go_simp; (try with_reducible rfl); done)); (simp only [Act.put, List.setIfInBounds_toArray, List.set_cons_zero, List.set_cons_succ]); go_big_quiet_on)
                  | (go_big_quiet_want; refine quiet_calls 39 #[.int .i64 (18 : Int)] (.int .i64 7) (fun w' hC => ?_) (fun w' hC => ?_) ?_; (focus (go_simp; done)); (focus (exact (HB9.out w').mono fun e w1 h => ⟨h.1, (hC.2.step h.2).cells, hC.2.step h.2⟩)); (simp only [Act.put, List.setIfInBounds_toArray, List.set_cons_zero, List.set_cons_succ]); go_big_quiet_on))
                refine wpQuiet_nil ?_
                intro w5 hC
                have K3 := hid hC.2
                clear hC
                obtain ⟨d0, d1, d2⟩ := K3.out.cells
                go_upto_region 12 with fail
                go_quiet (fail)
                go_upto_region 25 with fail
                go_loopw [4, 11] (fun l j wr => ∃ J : Nat, J ≤ M ∧ j = .int .i64 J ∧ Own wr w.heap.size l (o ++ List.replicate J (0 : Int)) ∧ Below w.heap.size w wr) (fun _ j _ => M - (intOf j).toNat)
                case atStart => exact ⟨0, Nat.zero_le _, rfl, by rw [show List.replicate 0 (0 : Int) = [] from rfl, List.append_nil]; exact (K3.out.drewN _).own, (K3.out.drewN _).below⟩
                case round =>
                  obtain ⟨J, hJ, rfl, hown, hB'⟩ := hrel
                  have HO' := hid hown
                  have HB' := hid hB'
                  clear hown hB'
                  by_cases hj : J < M
                  · have hz := HB'.out.size
                    go_wp2_with (at_builtin; refine wpList_append_own _ rfl _ _ 40 rfl w.heap.size 3 i0 (.int .i64 0) 1 8 und40 HI.out hz0 hz1 hz2 rfl (by decide) _ _ _ rfl (HO'.out.alloc _) ⟨wr.heap.size, 0, none⟩ 1 1 [.int .i64 0] rfl rfl (World.news_of_block (heap_alloc_new _ _)) (by simp [Value.oneCell']) (by simp [maxLen]; omega) (by simp; omega) (by simp; omega) ?_; intro v' w4 hown4 hgrow4 _)
                    have R := hid (app_next HO'.out HB'.out hown4 hgrow4)
                    clear hown4 hgrow4 hz
                    go_wp2_with fail
                    go_roundw
                    case rel => exact ⟨J + 1, by omega, by go_num, R.out.1, R.out.2⟩
                    case measure => simp [intOf]; omega
                  · obtain rfl : J = M := by omega
                    clear hj
                    obtain ⟨A5, cap5, g5, hv5, _⟩ := HO'.out.form
                    rw [show (o ++ List.replicate J (0 : Int)).length = o.length + J from by simp] at hv5
                    subst hv5
                    by_cases hf : 400 < (o.length : Int) + (J : Int)
                    · have HE := hid (rowT_none (k := k + 1) ((HT.out HR.out).trans (oneT_full (by rw [hM]; exact hf))) n (by omega))
                      clear HT hM
                      go_wp2_with fail
                      go_ret2
                      exact ⟨post_none HE.out, HB'.out⟩
                    · have HN := hid ((HT.out HR.out).trans (oneT_ok hok (fun c => absurd c.1 (by decide)) (by rw [hM]; omega)))
                      rw [hM, show valI o _ = 0 from rfl] at HN
                      have HM1 : (J : Int).toNat = J := by simp
                      rw [HM1] at HN
                      clear HM1 HT hM
                      go_wp2_with fail
                      go_roundw
                      case rel => exact ⟨k + 1, _, by omega, by go_num, HN.out, HO'.out, HB'.out⟩
                      case measure => simp [intOf]; omega
    · obtain rfl : k = n := by omega
      go_wp2_with fail
      go_ret2
      exact ⟨post_some HR.out HO.out, HB.out⟩
end Run
end Go.Proofs.Ytdjlkacmaflhfaa
