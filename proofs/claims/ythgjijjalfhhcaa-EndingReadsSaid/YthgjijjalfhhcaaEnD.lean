/- EndingReads: the walk of the document's reader of an end. -/
import Derived.Test.YthgjijjalfhhcaaEnC
namespace Go.Proofs.Ythgjijjalfhhcaa
set_option linter.unusedVariables false
open Go.RowKit
open Go.Proofs.Num
attribute [local go_sem ↓] Go.wp_at_zero Go.wp_at_succ
namespace Edg
open Fld

set_option maxRecDepth 100000 in
set_option maxHeartbeats 2000000 in
theorem refRead_lt (s : ByteArray) (A : Nat) (w : World) (hA : A ≤ s.size) (hs : s.size ≤ 9223372036854775807) (hl : s.size - A < 22) :
    Calls Try.prog 50 #[.string s, .int .i64 (A : Int)] w fun e w' => e = .returned (.tuple #[endV 0 0 0 0, .bool false]) ∧ Below w.heap.size w w' := by
  have h1 : (0 : Int) ≤ (A : Int) := by omega
  have h2 : (A : Int) ≤ (s.size : Int) := by omega
  have h3 : (s.size : Int) - (A : Int) < 22 := by omega
  clear hA hl
  have hn := heap_alloc_new w (.cells #[.int .i64 0, .int .i64 0, .int .i64 0, .int .i64 0] 75)
  have HN := hid hn
  have HB := hid ((Below.refl w.heap.size w).alloc (Nat.le_refl _) (.cells #[.int .i64 0, .int .i64 0, .int .i64 0, .int .i64 0] 75))
  clear hn
  go_enter Try.func50, Try.ntmps50
  go_upto_region 1 with fail
  generalize w.alloc (.cells #[.int .i64 0, .int .i64 0, .int .i64 0, .int .i64 0] 75) = W1 at HN HB ⊢
  have re : ∀ k v, (#[Value.int .i64 0, .int .i64 0, .int .i64 0, .int .i64 0] : Array Value)[k]? = some v → W1.cell? ⟨w.heap.size, k, none⟩ = some v := fun k v h => by rw [cell_of_row _ _ _ _ _ _ HN.out]; exact h
  have r0 := re 0 _ rfl
  have r1 := re 1 _ rfl
  have r2 := re 2 _ rfl
  have r3 := re 3 _ rfl
  have f0 := frozen_of_row W1 w.heap.size 0 _ _ HN.out
  have f1 := frozen_of_row W1 w.heap.size 1 _ _ HN.out
  have f2 := frozen_of_row W1 w.heap.size 2 _ _ HN.out
  have f3 := frozen_of_row W1 w.heap.size 3 _ _ HN.out
  clear re
  go_wp2_with fail
  exact bodyPost_ret (results_cell_tmp (fn := Try.f50) Try.results50 _ _ w.heap.size 75 _ (0, 0) _ rfl (.bool false) rfl (row4 HN.out _ _ _ _) Try.underlying75 rfl size75) rfl
    ⟨rfl, below4 HB.out (Nat.le_refl _) _ _ _ _⟩

/-- The state of the walk: the end that was read, and the result's cells. -/
structure Sr (w wr : World) (a b c d : Int) : Prop where
  res : wr.heap[w.heap.size]? = some (.cells #[.int .i64 0, .int .i64 0, .int .i64 0, .int .i64 0] 75 (0, 0))
  val : wr.heap[w.heap.size + 1]? = some (.cells #[.int .i64 a, .int .i64 b, .int .i64 c, .int .i64 d] 75 (0, 0))
  below : Below w.heap.size w wr
theorem sr_new (w : World) (a b c d : Int) : Sr w ((w.alloc (.cells #[.int .i64 0, .int .i64 0, .int .i64 0, .int .i64 0] 75)).alloc (.cells #[.int .i64 a, .int .i64 b, .int .i64 c, .int .i64 d] 75)) a b c d :=
  ⟨(Below.heap_alloc _ _ _ (by simp)).trans (heap_alloc_new _ _), by have := heap_alloc_new (w.alloc (.cells #[.int .i64 0, .int .i64 0, .int .i64 0, .int .i64 0] 75)) (.cells #[.int .i64 a, .int .i64 b, .int .i64 c, .int .i64 d] 75); rw [World.size_alloc] at this; exact this,
   ((Below.refl _ w).alloc (Nat.le_refl _) _).alloc (by simp) _⟩
theorem Sr.drewN {w wr : World} {a b c d : Int} (h : Sr w wr a b c d) (n : Nat) : Sr w (wr.drewN n) a b c d := ⟨h.res, h.val, below_drewN h.below n⟩
theorem Sr.step {w wr wx : World} {a b c d : Int} (h : Sr w wr a b c d) (hb : Below wr.heap.size wr wx) : Sr w wx a b c d :=
  ⟨(hb.block _ (Array.getElem?_eq_some_iff.1 h.res).1).trans h.res, (hb.block _ (Array.getElem?_eq_some_iff.1 h.val).1).trans h.val, h.below.trans (hb.mono h.below.size)⟩

set_option maxRecDepth 100000 in
set_option maxHeartbeats 2000000 in
theorem refRead_ge (s t : ByteArray) (A : Nat) (w : World) (hA : A ≤ s.size) (hs : s.size ≤ 9223372036854775807) (ht : s.extract A s.size = t) (hl : 22 ≤ t.size) :
    Calls Try.prog 50 #[.string s, .int .i64 (A : Int)] w fun e w' => e = .returned (.tuple #[valT t, .bool (okT t)]) ∧ Below w.heap.size w w' := by
  have hz : t.size = s.size - A := by rw [← ht]; simp [ByteArray.size_extract]
  have hs' : t.size ≤ 9223372036854775807 := by omega
  have A1 := hid (fun w => refAt t 8 2 w hs' (by omega) (by omega))
  have A2 := hid (fun w => refAt t 12 4 w hs' (by omega) (by omega))
  have A3 := hid (fun w => refAt t 16 4 w hs' (by omega) (by omega))
  have A4 := hid (fun w => refAt t 20 2 w hs' (by omega) (by omega))
  have SI := hid (sign_iff t (by omega))
  have EI := hid (same_iff t 8 10 2 (by omega) (by omega))
  have OK := hid (show okT t = decide (22 ≤ t.size ∧ G t 0 4 = 101010256 ∧ G t 4 2 = 0 ∧ G t 6 2 = 0 ∧ G t 8 2 = G t 10 2 ∧ rightB (G t 12 4) (G t 16 4) = true ∧ (t.size : Int) = 22 + G t 20 2) from rfl)
  have VA := hid (fun h => valT_yes (t := t) h)
  have HL := hid hl
  have b1 := g2 t 8
  have b2 := g4 t 12
  have b3 := g4 t 16
  have b4 := g2 t 20
  have HT := hid ht
  have h1 : (0 : Int) ≤ (A : Int) := by omega
  have h2 : (A : Int) ≤ (s.size : Int) := by omega
  have h3 : ¬ (s.size : Int) - (A : Int) < 22 := by omega
  have h5 : (22 : Int) ≤ (t.size : Int) := by omega
  clear hA hl hz ht
  obtain ⟨v1, hv1⟩ : ∃ v, G t 8 2 = v := ⟨_, rfl⟩
  obtain ⟨v2, hv2⟩ : ∃ v, G t 12 4 = v := ⟨_, rfl⟩
  obtain ⟨v3, hv3⟩ : ∃ v, G t 16 4 = v := ⟨_, rfl⟩
  obtain ⟨v4, hv4⟩ : ∃ v, G t 20 2 = v := ⟨_, rfl⟩
  rw [hv1] at A1 OK VA EI b1
  rw [hv2] at A2 OK VA b2
  rw [hv3] at A3 OK VA b3
  rw [hv4] at A4 OK VA b4
  clear hv1 hv2 hv3 hv4
  obtain ⟨l1, u1⟩ := b1
  obtain ⟨l2, u2⟩ := b2
  obtain ⟨l3, u3⟩ := b3
  obtain ⟨l4, u4⟩ := b4
  go_enter Try.func50, Try.ntmps50
  go_upto_region 4 with fail
  rw [HT.out]
  clear h1 h2 h3
  go_wp2_with fail
  refine (A1.out _).mono ?_
  rintro e w1 ⟨rfl, rfl⟩
  go_wp2_with fail
  refine (A2.out _).mono ?_
  rintro e w1 ⟨rfl, rfl⟩
  go_wp2_with fail
  refine (A3.out _).mono ?_
  rintro e w1 ⟨rfl, rfl⟩
  go_wp2_with fail
  refine (A4.out _).mono ?_
  rintro e w1 ⟨rfl, rfl⟩
  go_upto_region 5 with fail
  have i8 : (8 : Int) ≤ (t.size : Int) := by omega
  have i10 : (10 : Int) ≤ (t.size : Int) := by omega
  have i12 : (12 : Int) ≤ (t.size : Int) := by omega
  have S0 := hid (sr_new w v1 v2 v3 v4)
  obtain ⟨W2, hW2⟩ : ∃ W2, (w.alloc (.cells #[.int .i64 0, .int .i64 0, .int .i64 0, .int .i64 0] 75)).alloc (.cells #[.int .i64 v1, .int .i64 v2, .int .i64 v3, .int .i64 v4] 75) = W2 := ⟨_, rfl⟩
  rw [hW2] at S0 ⊢
  clear hW2
  go_cut [57] (fun f wx => f = .bool (!okT t) ∧ Sr w wx v1 v2 v3 v4)
  case first =>
    by_cases c1 : (t.extract 0 8).data.toList = [80, 75, 5, 6, 0, 0, 0, 0]
    · have e1 : ((t.extract 0 8).toList == [80, 75, 5, 6, 0, 0, 0, 0]) = true := by rw [ByteArray.toList_eq, c1]; rfl
      have D1 := hid (SI.out.1 c1)
      clear c1
      by_cases c2 : (t.extract 8 10).data.toList = (t.extract 10 12).data.toList
      · have e2 : ((t.extract 8 10).toList == (t.extract 10 12).toList) = true := by rw [ByteArray.toList_eq, ByteArray.toList_eq, c2]; exact beq_self_eq_true _
        have D2 := hid (EI.out.1 c2)
        have RR := hid (fun W => refRight v1 v2 v3 v4 W l1 u1 l2 l3 l4 u4)
        clear c2
        cases hrb : rightB v2 v3 with
        | false =>
          have O3 := hid (show okT t = false by
            rw [OK.out, decide_eq_false_iff_not]
            rintro ⟨_, _, _, _, _, x, _⟩
            rw [hrb] at x
            cases x)
          rw [hrb] at RR
          clear hrb
          refine region_quiet_C (C := fun w' => (w'.cell? ⟨w.heap.size + 1, 0, none⟩ = some (.int .i64 v1) ∧ w'.cell? ⟨w.heap.size + 1, 1, none⟩ = some (.int .i64 v2) ∧ w'.cell? ⟨w.heap.size + 1, 2, none⟩ = some (.int .i64 v3) ∧ w'.cell? ⟨w.heap.size + 1, 3, none⟩ = some (.int .i64 v4)) ∧ Sr w w' v1 v2 v3 v4) (by kernel_rfl) (by kernel_rfl) ⟨four_cells (Below.refl _ _) (S0.out.drewN 1).val, S0.out.drewN 1⟩ ?_
          repeat (first
            | go_big_quiet_skip
            | (go_big_quiet_want; go_big_quiet_op; go_big_quiet_on)
            | (go_big_quiet_want; refine quiet_pure ?_ (fun w' hC => ?_) ?_; rotate_left; (focus (obtain ⟨⟨c0, c1, c2, c3⟩, hr⟩ := hC; clear hr; go_simp; (try with_reducible rfl); done)); (simp only [Act.put, List.setIfInBounds_toArray, List.set_cons_zero, List.set_cons_succ]); go_big_quiet_on))
          go_big_quiet_want
          refine quiet_calls 84 #[endV v1 v2 v3 v4] (.bool false) (fun w' hC => ?_) (fun w' hC => ?_) ?_
          · obtain ⟨⟨c0, c1, c2, c3⟩, hr⟩ := hC
            clear hr
            go_simp
          · exact (RR.out w').mono fun e w1 h => ⟨h.1, four_cells h.2 hC.2.val, hC.2.step h.2⟩
          simp only [Act.put, List.setIfInBounds_toArray, List.set_cons_zero, List.set_cons_succ]
          go_big_quiet_on
          repeat (first
            | go_big_quiet_skip
            | (go_big_quiet_want; go_big_quiet_op; go_big_quiet_on)
            | (go_big_quiet_want; refine quiet_pure ?_ (fun w' hC => ?_) ?_; rotate_left; (focus (obtain ⟨⟨c0, c1, c2, c3⟩, hr⟩ := hC; clear hr; go_simp; (try with_reducible rfl); done)); (simp only [Act.put, List.setIfInBounds_toArray, List.set_cons_zero, List.set_cons_succ]); go_big_quiet_on))
          refine wpQuiet_nil ?_
          intro w2 hC
          have HC := hid hC
          clear hC
          go_wp2_with fail
          go_meet
          exact ⟨by rw [O3.out]; rfl, HC.out.2⟩
        | true =>
          have HRB := hid hrb
          rw [hrb] at RR
          clear hrb
          have hwr : IntKind.i64.wrap (22 + v4) = 22 + v4 := by rw [IntKind.wrap_i64]; omega
          by_cases c3 : (t.size : Int) = 22 + v4
          · have e3 : ((t.size : Int) == IntKind.i64.wrap (22 + v4)) = true := by rw [hwr]; simpa using c3
            have e3' : ((t.size : Int) != IntKind.i64.wrap (22 + v4)) = false := by rw [hwr]; simpa using c3
            have O3 := hid (show okT t = true by
              rw [OK.out, decide_eq_true_iff]
              exact ⟨HL.out, D1.out.1, D1.out.2.1, D1.out.2.2, D2.out, HRB.out, c3⟩)
            clear c3 hwr
            refine region_quiet_C (C := fun w' => (w'.cell? ⟨w.heap.size + 1, 0, none⟩ = some (.int .i64 v1) ∧ w'.cell? ⟨w.heap.size + 1, 1, none⟩ = some (.int .i64 v2) ∧ w'.cell? ⟨w.heap.size + 1, 2, none⟩ = some (.int .i64 v3) ∧ w'.cell? ⟨w.heap.size + 1, 3, none⟩ = some (.int .i64 v4)) ∧ Sr w w' v1 v2 v3 v4) (by kernel_rfl) (by kernel_rfl) ⟨four_cells (Below.refl _ _) (S0.out.drewN 1).val, S0.out.drewN 1⟩ ?_
            repeat (first
              | go_big_quiet_skip
              | (go_big_quiet_want; go_big_quiet_op; go_big_quiet_on)
              | (go_big_quiet_want; refine quiet_pure ?_ (fun w' hC => ?_) ?_; rotate_left; (focus (obtain ⟨⟨c0, c1, c2, c3⟩, hr⟩ := hC; clear hr; go_simp; (try with_reducible rfl); done)); (simp only [Act.put, List.setIfInBounds_toArray, List.set_cons_zero, List.set_cons_succ]); go_big_quiet_on))
            go_big_quiet_want
            refine quiet_calls 84 #[endV v1 v2 v3 v4] (.bool true) (fun w' hC => ?_) (fun w' hC => ?_) ?_
            · obtain ⟨⟨c0, c1, c2, c3⟩, hr⟩ := hC
              clear hr
              go_simp
            · exact (RR.out w').mono fun e w1 h => ⟨h.1, four_cells h.2 hC.2.val, hC.2.step h.2⟩
            simp only [Act.put, List.setIfInBounds_toArray, List.set_cons_zero, List.set_cons_succ]
            go_big_quiet_on
            repeat (first
              | go_big_quiet_skip
              | (go_big_quiet_want; go_big_quiet_op; go_big_quiet_on)
              | (go_big_quiet_want; refine quiet_pure ?_ (fun w' hC => ?_) ?_; rotate_left; (focus (obtain ⟨⟨c0, c1, c2, c3⟩, hr⟩ := hC; clear hr; go_simp; (try with_reducible rfl); done)); (simp only [Act.put, List.setIfInBounds_toArray, List.set_cons_zero, List.set_cons_succ]); go_big_quiet_on))
            refine wpQuiet_nil ?_
            intro w2 hC
            have HC := hid hC
            clear hC
            go_wp2_with fail
            go_meet
            exact ⟨by rw [O3.out]; rfl, HC.out.2⟩
          · have e3 : ((t.size : Int) == IntKind.i64.wrap (22 + v4)) = false := by rw [hwr]; simpa using c3
            have e3' : ((t.size : Int) != IntKind.i64.wrap (22 + v4)) = true := by rw [hwr]; simpa using c3
            have O3 := hid (show okT t = false by
              rw [OK.out, decide_eq_false_iff_not]
              rintro ⟨_, _, _, _, _, _, x⟩
              exact c3 x)
            clear c3 hwr
            refine region_quiet_C (C := fun w' => (w'.cell? ⟨w.heap.size + 1, 0, none⟩ = some (.int .i64 v1) ∧ w'.cell? ⟨w.heap.size + 1, 1, none⟩ = some (.int .i64 v2) ∧ w'.cell? ⟨w.heap.size + 1, 2, none⟩ = some (.int .i64 v3) ∧ w'.cell? ⟨w.heap.size + 1, 3, none⟩ = some (.int .i64 v4)) ∧ Sr w w' v1 v2 v3 v4) (by kernel_rfl) (by kernel_rfl) ⟨four_cells (Below.refl _ _) (S0.out.drewN 1).val, S0.out.drewN 1⟩ ?_
            repeat (first
              | go_big_quiet_skip
              | (go_big_quiet_want; go_big_quiet_op; go_big_quiet_on)
              | (go_big_quiet_want; refine quiet_pure ?_ (fun w' hC => ?_) ?_; rotate_left; (focus (obtain ⟨⟨c0, c1, c2, c3⟩, hr⟩ := hC; clear hr; go_simp; (try with_reducible rfl); done)); (simp only [Act.put, List.setIfInBounds_toArray, List.set_cons_zero, List.set_cons_succ]); go_big_quiet_on))
            go_big_quiet_want
            refine quiet_calls 84 #[endV v1 v2 v3 v4] (.bool true) (fun w' hC => ?_) (fun w' hC => ?_) ?_
            · obtain ⟨⟨c0, c1, c2, c3⟩, hr⟩ := hC
              clear hr
              go_simp
            · exact (RR.out w').mono fun e w1 h => ⟨h.1, four_cells h.2 hC.2.val, hC.2.step h.2⟩
            simp only [Act.put, List.setIfInBounds_toArray, List.set_cons_zero, List.set_cons_succ]
            go_big_quiet_on
            repeat (first
              | go_big_quiet_skip
              | (go_big_quiet_want; go_big_quiet_op; go_big_quiet_on)
              | (go_big_quiet_want; refine quiet_pure ?_ (fun w' hC => ?_) ?_; rotate_left; (focus (obtain ⟨⟨c0, c1, c2, c3⟩, hr⟩ := hC; clear hr; go_simp; (try with_reducible rfl); done)); (simp only [Act.put, List.setIfInBounds_toArray, List.set_cons_zero, List.set_cons_succ]); go_big_quiet_on))
            refine wpQuiet_nil ?_
            intro w2 hC
            have HC := hid hC
            clear hC
            go_wp2_with fail
            go_meet
            exact ⟨by rw [O3.out]; rfl, HC.out.2⟩
      · have e2 : ((t.extract 8 10).toList == (t.extract 10 12).toList) = false := by rw [ByteArray.toList_eq, ByteArray.toList_eq]; exact beq_false_of_ne c2
        have O2 := hid (show okT t = false by
          rw [OK.out, decide_eq_false_iff_not]
          rintro ⟨_, _, _, _, x, _⟩
          exact c2 (EI.out.2 x))
        clear c2
        go_quiet (fail)
        go_wp2_with fail
        go_meet
        exact ⟨by rw [O2.out]; rfl, S0.out.drewN _⟩
    · have e1 : ((t.extract 0 8).toList == [80, 75, 5, 6, 0, 0, 0, 0]) = false := by rw [ByteArray.toList_eq]; exact beq_false_of_ne c1
      have O1 := hid (show okT t = false by
        rw [OK.out, decide_eq_false_iff_not]
        rintro ⟨_, x1, x2, x3, _⟩
        exact c1 (SI.out.2 ⟨x1, x2, x3⟩))
      clear c1
      go_quiet (fail)
      go_wp2_with fail
      go_meet
      exact ⟨by rw [O1.out]; rfl, S0.out.drewN _⟩
  case rest =>
    obtain ⟨rfl, hst⟩ := hcut
    have S1 := hid hst
    have re : ∀ k v, (#[Value.int .i64 0, .int .i64 0, .int .i64 0, .int .i64 0] : Array Value)[k]? = some v → wc.cell? ⟨w.heap.size, k, none⟩ = some v := fun k v h => by rw [cell_of_row _ _ _ _ _ _ S1.out.res]; exact h
    have r0 := re 0 _ rfl
    have r1 := re 1 _ rfl
    have r2 := re 2 _ rfl
    have r3 := re 3 _ rfl
    have f0 := frozen_of_row wc w.heap.size 0 _ _ S1.out.res
    have f1 := frozen_of_row wc w.heap.size 1 _ _ S1.out.res
    have f2 := frozen_of_row wc w.heap.size 2 _ _ S1.out.res
    have f3 := frozen_of_row wc w.heap.size 3 _ _ S1.out.res
    have hd := four_cells (Below.refl _ wc) S1.out.val
    obtain ⟨d0, d1, d2, d3⟩ := hd
    simp only [List.getElem_toArray, List.getElem_cons_zero, List.getElem_cons_succ] at r0 r1 r2 r3
    clear hst re
    cases hok : okT t with
    | false =>
      have HOK := hid hok
      clear hok d0 d1 d2 d3
      go_wp2_with fail
      exact bodyPost_ret (results_cell_tmp (fn := Try.f50) Try.results50 _ _ w.heap.size 75 _ (0, 0) _ rfl (.bool false) rfl (row4 S1.out.res _ _ _ _) Try.underlying75 rfl size75) rfl
        ⟨by rw [valT_no HOK.out, HOK.out], below4 S1.out.below (Nat.le_refl _) _ _ _ _⟩
    | true =>
      have HOK := hid hok
      clear hok
      go_wp2_with fail
      exact bodyPost_ret (results_cell_tmp (fn := Try.f50) Try.results50 _ _ w.heap.size 75 _ (0, 0) _ rfl (.bool true) rfl (row4 S1.out.res _ _ _ _) Try.underlying75 rfl size75) rfl
        ⟨by rw [VA.out HOK.out, HOK.out], below4 S1.out.below (Nat.le_refl _) _ _ _ _⟩
end Edg
end Go.Proofs.Ythgjijjalfhhcaa
