/- CommitWrites: the walk of the reader on any text. -/
import Derived.Test.YthgjijjalfhhcabDoorCoR
import Derived.OwnWalk
import Derived.Deep.MidRow
namespace Go.Proofs.YthgjijjalfhhcabDoor
set_option linter.unusedVariables false
open Go.RowKit
open Go.Proofs.Num
attribute [local go_sem ↓] Go.wp_at_zero Go.wp_at_succ
namespace Com
open Fld

section
variable {P : Program} {C : World → Prop} {a : Act} {o : Oper}
theorem quiet_pure {K : Act → Prop} (v : Value) (h : ∀ w, C w → (execOp a.eval o).run P w = .ok (.value v) w) (hk : K (a.put o.dst v)) : o.quiet P a C K :=
  ⟨v, fun w hC => by unfold Oper.quietAt; rw [h w hC]; exact ⟨rfl, rfl⟩, hk⟩
theorem region_quiet_C {id : Nat} {Q : Exit → Act → World → Prop} {w : World} {l : List Oper} (hm : P.follows .mixedOrders = true) (hB : Region.lexB .any l.toArray = true) (hC : C { w with drawn := w.drawn + 1 })
    (h : wpQuiet P l.toArray C (fun a' => ∀ w', C w' → Q .normal a' w') l a) : (Code.region id l.toArray true).wp P Q a w :=
  wp_region_quiet (C := C) hm hB hC (by simpa using h)
theorem quiet_calls {K : Act → Prop} (f : FuncId) (args : Array Value) (v : Value) (h : ∀ w, C w → (execOp a.eval o).run P w = .ok (.enter f args) w) (hc : ∀ w, C w → Calls P f args w fun e w'' => e = .returned v ∧ C w'') (hk : K (a.put o.dst v)) : o.quiet P a C K :=
  ⟨v, fun w hC => by unfold Oper.quietAt; rw [h w hC]; exact ⟨rfl, hc w hC⟩, hk⟩
end

set_option maxRecDepth 100000 in
theorem readShort (s : ByteArray) (w : World) (hz : ¬ s.size = 512) (hs : s.size ≤ 1000) : Calls Tryd.prog 6 #[.string s] w fun e w' => e = .returned (.tuple #[markV 0 0, .bool false]) ∧ Below w.heap.size w w' := by
  have hr := heap_alloc_new w (.cells #[.int .i64 0, .int .i64 0] 24)
  have HB := hid ((Below.refl _ w).alloc (Nat.le_refl _) (.cells #[.int .i64 0, .int .i64 0] 24))
  have HRR := hid hr
  have h512 : ((s.size : Int) != 512) = true := by simp; omega
  clear hr
  go_enter Tryd.func6, Tryd.ntmps6
  go_upto_region 1 with fail
  generalize w.alloc (.cells #[.int .i64 0, .int .i64 0] 24) = W at HB HRR ⊢
  obtain ⟨r0, r1⟩ := two_cells HRR.out
  have f0 := frozen_of_row W w.heap.size 0 _ _ HRR.out
  have f1 := frozen_of_row W w.heap.size 1 _ _ HRR.out
  go_wp2_with fail
  exact bodyPost_ret (results_cell_tmp (fn := Tryd.f6) Tryd.results6 _ _ w.heap.size 24 _ (0, 0) _ rfl (.bool false) rfl (heap_setCell_same _ w.heap.size 1 _ 24 _ (heap_setCell_same _ w.heap.size 0 _ 24 _ HRR.out)) Tryd.underlying24 rfl size24) rfl
    ⟨rfl, (HB.out.setCell (p := ⟨w.heap.size, 0, none⟩) (Nat.le_refl _) _).setCell (p := ⟨w.heap.size, 1, none⟩) (Nat.le_refl _) _⟩

theorem below_or {w w' : World} (h : w' = w ∨ w' = w.drew) : Below w.heap.size w w' := by
  rcases h with rfl | rfl
  · exact Below.refl _ _
  · exact (Below.refl _ _).drew
theorem getI_bd (s : ByteArray) (n : Nat) : 0 ≤ getI s n ∧ getI s n < ((256 ^ n : Nat) : Int) := by
  have h1 := getL_lt (s.data.toList.take n)
  have h2 : (s.data.toList.take n).length ≤ n := by rw [List.length_take]; omega
  have h3 : 256 ^ (s.data.toList.take n).length ≤ 256 ^ n := Nat.pow_le_pow_right (by decide) h2
  unfold getI
  omega

/-- Is it read as no mark: what stands there. -/
structure NoMark (T L S : Int) (m rest : ByteArray) : Prop where
  bad : No T L ∨ ∃ t l : Nat, Ok t l ∧ T = t ∧ L = l ∧ (¬ (m = magicB ∧ S = (sumN t l : Int)) ∨ (m = magicB ∧ S = (sumN t l : Int) ∧ ¬ Lib.trimB rest.data.toList 0 = []))

set_option maxRecDepth 100000 in
set_option maxHeartbeats 2000000 in
theorem readNo (s : ByteArray) (w : World) (hz : s.size = 512) (hno : ∀ t l, Ok t l → ¬ s = markB t l) : Calls Tryd.prog 6 #[.string s] w fun e w' => e = .returned (.tuple #[markV 0 0, .bool false]) ∧ Below w.heap.size w w' := by
  have hz2 : s.size ≤ 9223372036854775807 := by omega
  have bA := getI_bd (s.extract 8 s.size) 8
  have bB := getI_bd (s.extract 16 s.size) 8
  have bS := getI_bd (s.extract 24 s.size) 4
  have hNM : NoMark (IntKind.i64.wrap (getI (s.extract 8 s.size) 8)) (IntKind.i64.wrap (getI (s.extract 16 s.size) 8)) (getI (s.extract 24 s.size) 4) (s.extract 0 (0 + 8)) (s.extract 28 (28 + 484)) := by
    refine ⟨?_⟩
    rcases no_or (IntKind.i64.wrap (getI (s.extract 8 s.size) 8)) (IntKind.i64.wrap (getI (s.extract 16 s.size) 8)) with h | ⟨t, l, hok, h1, h2⟩
    · exact .inl h
    · refine .inr ⟨t, l, hok, h1, h2, ?_⟩
      by_cases h3 : s.extract 0 (0 + 8) = magicB ∧ getI (s.extract 24 s.size) 4 = (sumN t l : Int)
      · refine .inr ⟨h3.1, h3.2, fun h4 => ?_⟩
        have h5 := trim_nil h4
        have h6 : (s.extract 28 (28 + 484)).data.toList.length = 484 := by
          rw [ext_list, List.length_take, List.length_drop]
          simp
          omega
        rw [h6] at h5
        rw [IntKind.wrap_i64] at h1 h2
        have t1 := hok.t1
        have l1 := hok.l1
        refine hno t l hok (sector_parts s hz t l h3.1 ?_ ?_ h3.2 h5)
        · simp at bA
          omega
        · simp at bB
          omega
      · exact .inl h3
  have HN := hid (r0_new w s)
  have G1 := hid (fun W => get_yes (s.extract 8 s.size) 8 W (by simp; omega) (by omega) (by simp; omega))
  have G2 := hid (fun W => get_yes (s.extract 16 s.size) 8 W (by simp; omega) (by omega) (by simp; omega))
  have G3 := hid (fun W => get_yes (s.extract 24 s.size) 4 W (by simp; omega) (by omega) (by simp; omega))
  have hrs : (s.extract 28 (28 + 484)).size ≤ 1000 := by simp; omega
  generalize hm : s.extract 0 (0 + 8) = m at hNM
  generalize hrest : s.extract 28 (28 + 484) = Z at hNM hrs
  have M0 := hid hm
  have M4 := hid hrest
  clear hm hrest hno
  generalize getI (s.extract 8 s.size) 8 = A at *
  generalize getI (s.extract 16 s.size) 8 = B at *
  generalize getI (s.extract 24 s.size) 4 = S at *
  obtain ⟨T, e1⟩ : ∃ T, IntKind.i64.wrap A = T := ⟨_, rfl⟩
  obtain ⟨L, e2⟩ : ∃ L, IntKind.i64.wrap B = L := ⟨_, rfl⟩
  rw [e1, e2] at hNM
  have HNM := hid hNM
  have e3 : IntKind.u32.wrap S = S := by
    rw [IntKind.wrap_u32]
    simp at bS
    omega
  have HZ := hid hz2
  have h512 : (s.size : Int) = 512 := by omega
  have HSZ := hid hz
  clear hz hz2 bA bB bS hNM
  go_enter Tryd.func6, Tryd.ntmps6
  go_wp2_with fail
  refine (read _ _).mono ?_
  rintro e w1 ⟨rfl, rfl⟩
  go_upto_region 4 with fail
  generalize (w.alloc (.cells #[.int .i64 0, .int .i64 0] 24)).alloc (.cells #[.string s, .int .i64 0, .bool false] 69) = W1 at HN ⊢
  go_wp2_with fail
  refine (text_yes _ s 0 8 _ HN.out.rd (by have := HSZ.out; omega) HZ.out).mono ?_
  rw [M0.out]
  rintro e w2 ⟨rfl, hl2⟩
  have HN2 := hid (HN.out.go hl2)
  clear hl2
  go_upto_region 5 with fail
  have K0 := hid (r1_new HN2.out (.string m) (.int .i64 0) (.int .i64 0) (.int .u32 0))
  clear HN HN2
  generalize w2.alloc (.cells #[.string m, .int .i64 0, .int .i64 0, .int .u32 0] 43) = W2 at K0 ⊢
  generalize w2.heap.size = X at K0 ⊢
  go_wp2_with fail
  refine (num_yes _ s 8 8 A _ K0.out.r0.rd (by have := HSZ.out; omega) HZ.out G1.out).mono ?_
  rintro e w3 ⟨rfl, hl3⟩
  have K1 := hid (K0.out.go hl3)
  clear hl3
  go_wp2_with fail
  refine (num_yes _ s 16 8 B _ K1.out.r0.rd (by have := HSZ.out; omega) HZ.out G2.out).mono ?_
  rintro e w4 ⟨rfl, hl4⟩
  have K2 := hid (K1.out.go hl4)
  clear hl4 K0 K1
  obtain ⟨a0, a1, a2, a3⟩ := four_cells K2.out.box
  have f1 := frozen_of_row w4 X 1 _ _ K2.out.box
  have f2 := frozen_of_row w4 X 2 _ _ K2.out.box
  go_upto_region 6 with fail
  have K3 := hid (K2.out.mark (.int .i64 T) (.int .i64 L))
  clear K2 a0 a1 a2 a3 f1 f2
  generalize (w4.setCell ⟨X, 1, none⟩ (.int .i64 T)).setCell ⟨X, 2, none⟩ (.int .i64 L) = W4 at K3 ⊢
  go_wp2_with fail
  refine (num_yes _ s 24 4 S _ K3.out.r0.rd (by have := HSZ.out; omega) HZ.out G3.out).mono ?_
  rintro e w5 ⟨rfl, hl5⟩
  have K4 := hid (K3.out.go hl5)
  clear hl5 K3
  obtain ⟨a0, a1, a2, a3⟩ := four_cells K4.out.box
  have f3 := frozen_of_row w5 X 3 _ _ K4.out.box
  go_upto_region 7 with fail
  have K5 := hid (K4.out.sum (.int .u32 S))
  clear K4 a0 a1 a2 a3 f3
  generalize w5.setCell ⟨X, 3, none⟩ (.int .u32 S) = W5 at K5 ⊢
  go_wp2_with fail
  refine (left _ s 28 false _ K5.out.r0.rd (by have := HSZ.out; omega) HZ.out).mono ?_
  rintro e w6 ⟨n6, rfl, rfl⟩
  have K6 := hid (K5.out.drewN n6)
  clear K5
  generalize W5.drewN n6 = W6 at K6 ⊢
  have h484 : (s.size : Int) - ((28 : Nat) : Int) = ((484 : Nat) : Int) := by omega
  rw [h484]
  go_wp2_with fail
  refine (text_yes _ s 28 484 _ K6.out.r0.rd (by have := HSZ.out; omega) HZ.out).mono ?_
  rw [M4.out]
  rintro e w7 ⟨rfl, hl7⟩
  have K7 := hid (K6.out.go hl7)
  clear hl7 K6
  go_upto_region 8 with fail
  go_cut [47] (fun v wx => v = .bool true ∧ ∃ a b c d, R1 w wx s (28 + 484) X a b c d)
  case first =>
    rcases HNM.out.bad with hN | ⟨t, l, hok, hT, hL, hrest⟩
    · have RN := hid (fun W => right_no T L hN W)
      refine region_quiet_C (C := (fun w' => (w'.cell? ⟨X, 0, none⟩ = some (.string m) ∧ w'.cell? ⟨X, 1, none⟩ = some (.int .i64 T) ∧ w'.cell? ⟨X, 2, none⟩ = some (.int .i64 L) ∧ w'.cell? ⟨X, 3, none⟩ = some (.int .u32 S)) ∧ R1 w w' s (28 + 484) X (.string m) (.int .i64 T) (.int .i64 L) (.int .u32 S))) (by kernel_rfl) (by kernel_rfl) ⟨four_cells K7.out.box, K7.out.drew⟩ ?_
      repeat (first
          | go_big_quiet_skip
          | (go_big_quiet_want; go_big_quiet_op; go_big_quiet_on)
          | (go_big_quiet_want; refine quiet_pure ?_ (fun w' hC => ?_) ?_; rotate_left; (focus (obtain ⟨⟨c0, c1, c2, c3⟩, hr⟩ := hC; clear hr; go_simp; (try with_reducible rfl); done)); (simp only [Act.put, List.setIfInBounds_toArray, List.set_cons_zero, List.set_cons_succ]); go_big_quiet_on))
      go_big_quiet_want
      refine quiet_calls 16 #[markV T L] (.bool false) (fun w' hC => ?_) (fun w' hC => ?_) ?_
      · go_simp
      · exact (RN.out w').mono fun e w1 h => ⟨h.1, four_cells (hC.2.step h.2).box, hC.2.step h.2⟩
      simp only [Act.put, List.setIfInBounds_toArray, List.set_cons_zero, List.set_cons_succ]
      go_big_quiet_on
      repeat (first
          | go_big_quiet_skip
          | (go_big_quiet_want; go_big_quiet_op; go_big_quiet_on)
          | (go_big_quiet_want; refine quiet_pure ?_ (fun w' hC => ?_) ?_; rotate_left; (focus (obtain ⟨⟨c0, c1, c2, c3⟩, hr⟩ := hC; clear hr; go_simp; (try with_reducible rfl); done)); (simp only [Act.put, List.setIfInBounds_toArray, List.set_cons_zero, List.set_cons_succ]); go_big_quiet_on))
      refine wpQuiet_nil ?_
      intro w2 hC
      have HC := hid hC
      clear hC
      go_wp2_with fail
      go_meet
      exact ⟨rfl, _, _, _, _, HC.out.2⟩
    · have e1' := e1
      have e2' := e2
      clear e1 e2
      subst hT
      subst hL
      have t1 := hok.t1
      have l1 : l ≤ 1099511627776 := by have := hok.l1; omega
      have RY := hid (fun W => right t l hok W)
      have HS := hid (fun W => sealed t l W t1 l1)
      rcases hrest with hne | ⟨hm, hS, htr⟩
      · have hneq := fun W => neq44_no m (t : Int) (l : Int) S (sumN t l : Int) W hne
        clear hne
        refine region_quiet_C (C := (fun w' => (w'.cell? ⟨X, 0, none⟩ = some (.string m) ∧ w'.cell? ⟨X, 1, none⟩ = some (.int .i64 (t : Int)) ∧ w'.cell? ⟨X, 2, none⟩ = some (.int .i64 (l : Int)) ∧ w'.cell? ⟨X, 3, none⟩ = some (.int .u32 S)) ∧ R1 w w' s (28 + 484) X (.string m) (.int .i64 (t : Int)) (.int .i64 (l : Int)) (.int .u32 S))) (by kernel_rfl) (by kernel_rfl) ⟨four_cells K7.out.box, K7.out.drew⟩ ?_
        repeat (first
          | go_big_quiet_skip
          | (go_big_quiet_want; go_big_quiet_op; go_big_quiet_on)
          | (go_big_quiet_want; refine quiet_pure ?_ (fun w' hC => ?_) ?_; rotate_left; (focus (obtain ⟨⟨c0, c1, c2, c3⟩, hr⟩ := hC; clear hr; go_simp; (try with_reducible rfl); done)); (simp only [Act.put, List.setIfInBounds_toArray, List.set_cons_zero, List.set_cons_succ]); go_big_quiet_on))
        go_big_quiet_want
        refine quiet_calls 16 #[markV t l] (.bool true) (fun w' hC => ?_) (fun w' hC => ?_) ?_
        · go_simp
        · exact (RY.out w').mono fun e w1 h => ⟨h.1, four_cells (hC.2.step h.2).box, hC.2.step h.2⟩
        simp only [Act.put, List.setIfInBounds_toArray, List.set_cons_zero, List.set_cons_succ]
        go_big_quiet_on
        repeat (first
          | go_big_quiet_skip
          | (go_big_quiet_want; go_big_quiet_op; go_big_quiet_on)
          | (go_big_quiet_want; refine quiet_pure ?_ (fun w' hC => ?_) ?_; rotate_left; (focus (obtain ⟨⟨c0, c1, c2, c3⟩, hr⟩ := hC; clear hr; go_simp; (try with_reducible rfl); done)); (simp only [Act.put, List.setIfInBounds_toArray, List.set_cons_zero, List.set_cons_succ]); go_big_quiet_on))
        go_big_quiet_want
        refine quiet_calls 17 #[markV t l] (sealV t l (sumN t l : Nat)) (fun w' hC => ?_) (fun w' hC => ?_) ?_
        · go_simp
        · exact (HS.out w').mono fun e w1 h => ⟨h.1, four_cells (hC.2.step h.2).box, hC.2.step h.2⟩
        simp only [Act.put, List.setIfInBounds_toArray, List.set_cons_zero, List.set_cons_succ]
        go_big_quiet_on
        repeat (first
          | go_big_quiet_skip
          | (go_big_quiet_want; go_big_quiet_op; go_big_quiet_on)
          | (go_big_quiet_want; refine quiet_pure ?_ (fun w' hC => ?_) ?_; rotate_left; (focus (obtain ⟨⟨c0, c1, c2, c3⟩, hr⟩ := hC; clear hr; go_simp; (try with_reducible rfl); done)); (simp only [Act.put, List.setIfInBounds_toArray, List.set_cons_zero, List.set_cons_succ]); go_big_quiet_on))
        refine wpQuiet_nil ?_
        intro w2 hC
        have HC := hid hC
        clear hC
        go_wp2_with fail
        go_meet
        exact ⟨rfl, _, _, _, _, HC.out.2⟩
      · subst hm
        subst hS
        have hneq := fun W => neq44 (t : Int) (l : Int) (sumN t l : Int) W
        generalize sumN t l = S' at *
        have c0 := hid (four_cells K7.out.box)
        have HT := hid (fun W => Tryd.strings_Trim_one Z 0 (by decide) W (by omega))
        have hx : ¬ (⟨(Lib.trimB Z.data.toList 0).toArray⟩ : ByteArray).toList = [] := by rw [ByteArray.toList_eq]; simpa using htr
        generalize (⟨(Lib.trimB Z.data.toList 0).toArray⟩ : ByteArray) = x at HT hx
        have hx2 : x.toList.isEmpty = false := by
          cases hd : x.toList with
          | nil => exact absurd hd hx
          | cons => rfl
        go_region_held3 (fun W' => W'.cell? ⟨X, 0, none⟩ = some (.string magicB) ∧ W'.cell? ⟨X, 1, none⟩ = some (.int .i64 (t : Int)) ∧ W'.cell? ⟨X, 2, none⟩ = some (.int .i64 (l : Int)) ∧ W'.cell? ⟨X, 3, none⟩ = some (.int .u32 (S' : Int)))
          (first | exact c0.out | exact four_cells K10.out.box | exact four_cells K9.out.box | exact four_cells K8.out.box | go_keep)
          (first
            | (have tok := K9.out; clear tok; go_at_call 27; refine (HT.out _).mono ?_; rintro e w10 ⟨rfl, h⟩; have K10 := hid (K9.out.step (below_or h)); clear h)
            | (have tok := K8.out; clear tok; go_at_call 17; refine (HS.out _).mono ?_; rintro e w9 ⟨rfl, h⟩; have K9 := hid (K8.out.step h); clear h)
            | (go_at_call 16; refine (RY.out _).mono ?_; rintro e w8 ⟨rfl, h⟩; have K8 := hid (by first | exact K7.out.drew.step h | exact K7.out.step h); clear h))
        go_wp2_with fail
        go_meet
        exact ⟨rfl, _, _, _, _, K10.out⟩
  case rest =>
    obtain ⟨rfl, a, b, c, d, hr⟩ := hcut
    have K10 := hid hr
    clear hr
    obtain ⟨r0, r1⟩ := two_cells K10.out.r0.res
    have f0 := frozen_of_row wc w.heap.size 0 _ _ K10.out.r0.res
    have f1 := frozen_of_row wc w.heap.size 1 _ _ K10.out.r0.res
    go_wp2_with fail
    exact bodyPost_ret (results_cell_tmp (fn := Tryd.f6) Tryd.results6 _ _ w.heap.size 24 _ (0, 0) _ rfl (.bool false) rfl (heap_setCell_same _ w.heap.size 1 _ 24 _ (heap_setCell_same _ w.heap.size 0 _ 24 _ K10.out.r0.res)) Tryd.underlying24 rfl size24) rfl
      ⟨rfl, (K10.out.r0.below.setCell (p := ⟨w.heap.size, 0, none⟩) (Nat.le_refl _) _).setCell (p := ⟨w.heap.size, 1, none⟩) (Nat.le_refl _) _⟩
end Com
end Go.Proofs.YthgjijjalfhhcabDoor
