/- RUNS: the steps of a row, as the document makes them. -/
import Derived.Test.YtdjlkacmaflhfaaRunH
import Derived.Deep.CutBlock
namespace Go.Proofs.Ytdjlkacmaflhfaa
set_option linter.unusedVariables false
open Go.RowKit
open Go.Proofs.Runs
attribute [local go_sem ↓] Go.wp_at_zero Go.wp_at_succ
namespace Run
theorem drewN_add (w : World) (a b : Nat) : (w.drewN a).drewN b = w.drewN (a + b) := by simp [World.drewN, Nat.add_assoc]
theorem und43 : Try.prog.underlying 43 = some (.slice 47) := by kernel_rfl
theorem info47 : (Try.prog.info? 47).map (fun i => (i.zero, i.size, i.bytes)) = some (some (.agg #[.int .i64 0, .int .i64 0, .int .i64 0]), 3, 24) := by kernel_rfl
set_option maxRecDepth 100000 in
set_option maxHeartbeats 4000000 in
theorem refOf (A : Option Addr) (b off len cap : Nat) (x : Nat → Int) (w : World) (hlen : len ≤ 450) (hx : Ints w A b off len x) :
    Calls Try.prog 23 #[.slice A len cap] w fun e w' => (∃ v, e = .returned v ∧ (Fine x len → OwnS w' w.heap.size 47 v (ofT x len))) ∧ Below w.heap.size w w' := by
  have HX := hid hx
  clear hx
  obtain ⟨i0, hi, hz0, hz1, hz2⟩ := info_parts info47
  have HI := hid hi
  clear hi
  go_enter Try.func23, Try.ntmps23
  go_upto_region 3 with fail
  go_loopw [3, 4] (fun l i wr => ∃ (j at' : Nat) (o : List S), stT x len j = (at', o) ∧ i = .int .i64 at' ∧ OwnS wr w.heap.size 47 l o ∧ Below w.heap.size w wr) (fun _ i _ => len - (intOf i).toNat)
  case atStart => exact ⟨0, 0, [], rfl, rfl, World.ownsRow_nil _ _ _ _, Below.refl _ _⟩
  case round =>
    obtain ⟨j, at', o, hst, rfl, hown, hB⟩ := hrel
    have hle := st_le x len j
    rw [hst] at hle
    obtain ⟨hle1, hle2, _⟩ := hle
    simp only at hle1 hle2
    have HS := hid hst
    have HO := hid hown
    have HB := hid hB
    clear hst hown hB
    have hwz := HB.out.size
    by_cases hlt : at' < len
    · have hA := HX.out.ad (by omega)
      subst hA
      by_cases h400 : (len : Int) ≤ 400
      · have HXW := hid (HX.out.below HB.out).at_
        have c1 := HXW.out at' hlt
        by_cases x0 : x at' < 0
        · have HF := hid (show ¬ Fine x len from fun h => by have := h.2 at' hlt; omega)
          generalize x at' = y at *
          go_wp2_with fail
          go_ret
          exact ⟨⟨_, rfl, fun h => absurd h HF.out⟩, HB.out⟩
        · by_cases x1 : 15 < x at'
          · have HF := hid (show ¬ Fine x len from fun h => by have := h.2 at' hlt; omega)
            generalize x at' = y at *
            go_wp2_with fail
            go_ret
            exact ⟨⟨_, rfl, fun h => absurd h HF.out⟩, HB.out⟩
          · obtain ⟨z, hzz⟩ : ∃ z, z = zT x len at' := ⟨_, rfl⟩
            obtain ⟨a, haa⟩ : ∃ a, a = aT x len at' := ⟨_, rfl⟩
            have HZZ := hid hzz
            have HAA := hid haa
            have hn := atN_le (x := x) hlt
            have HN := hid (st_next HS.out hlt)
            have hz := zT_le (x := x) hle1
            have ha := aT_le (x := x) hle1
            have hnc := next_cases x (zT x len at') (aT x len at') at'
            unfold atN at hn HN
            unfold atS at HN
            rw [← hzz] at hz hn HN hnc
            rw [← haa] at ha hn HN hnc
            clear hzz haa
            go_upto_block 2 with fail
            go_cut [5] (fun s wx => s = .int .i64 ((min 138 z : Nat) : Int) ∧ wx = wr)
            case first =>
              go_wp2_with fail
              obtain ⟨wo, rfl⟩ : ∃ wo : World, wo = wr := ⟨_, rfl⟩
              go_loopw [5] (fun s wr => ∃ Z : Nat, s = .int .i64 Z ∧ (∀ i, i < Z → x (at' + i) = 0) ∧ at' + Z ≤ len ∧ Z ≤ 138 ∧ wr = wo) (fun s _ => 138 - (intOf s).toNat)
              case atStart => exact ⟨0, rfl, fun i h => absurd h (Nat.not_lt_zero _), by omega, by omega, rfl⟩
              case round =>
                obtain ⟨Z, rfl, h1, h2, h3, rfl⟩ := hrel
                have H1 := hid h1
                clear h1
                have w0 : IntKind.i64.wrap ((at' : Int) + (Z : Int)) = ((at' + Z : Nat) : Int) := by rw [IntWalk.i64_in _ (by omega)]; omega
                by_cases q1 : at' + Z < len
                · have q1' : ((at' + Z : Nat) : Int) < (len : Int) := by omega
                  have d1 := HXW.out (at' + Z) q1
                  by_cases q2 : x (at' + Z) = 0
                  · have HQ := hid q2
                    rw [q2] at d1
                    clear q2
                    by_cases q3 : Z < 138
                    · have q3' : (Z : Int) < 138 := by omega
                      go_wp2_with fail
                      go_roundw
                      case rel => exact ⟨Z + 1, by go_num, fun i hi => by
                        by_cases e : i < Z
                        · exact H1.out i e
                        · rw [show i = Z by omega]; exact HQ.out, by omega, by omega, trivial⟩
                      case measure => simp [intOf]; omega
                    · have q3' : ¬ (Z : Int) < 138 := by omega
                      have HR := hid (goes_min (x := x) (len := len) (v := 0) (cap := 138) hle1 H1.out h2 h3 (.inl (by omega)))
                      go_wp2_with fail
                      go_meet
                      exact ⟨by rw [HR.out, HZZ.out]; rfl, rfl⟩
                  · have HR := hid (goes_min (x := x) (len := len) (v := 0) (cap := 138) hle1 H1.out h2 h3 (.inr (.inr q2)))
                    have q2' : (x (at' + Z) == 0) = false := by simpa using q2
                    generalize x (at' + Z) = t at *
                    clear q2
                    go_wp2_with fail
                    go_meet
                    exact ⟨by rw [HR.out, HZZ.out]; rfl, rfl⟩
                · have q1' : ¬ ((at' + Z : Nat) : Int) < (len : Int) := by omega
                  have HR := hid (goes_min (x := x) (len := len) (v := 0) (cap := 138) hle1 H1.out h2 h3 (.inr (.inl (by omega))))
                  go_wp2_with fail
                  go_meet
                  exact ⟨by rw [HR.out, HZZ.out]; rfl, rfl⟩
            case rest =>
              obtain ⟨rfl, rfl⟩ := hcut
              go_upto_block 4 with fail
              go_cut [6] (fun s wx => s = .int .i64 ((min 6 a : Nat) : Int) ∧ ∃ q, wx = wc.drewN q)
              case first =>
                go_wp2_with fail
                go_loopw [6] (fun s wr => ∃ Z q : Nat, s = .int .i64 Z ∧ (∀ i, i < Z → x (at' + i) = x (at' - 1)) ∧ at' + Z ≤ len ∧ Z ≤ 6 ∧ (at' = 0 → Z = 0) ∧ wr = wc.drewN q) (fun s _ => 6 - (intOf s).toNat)
                case atStart => exact ⟨0, 0, rfl, fun i h => absurd h (Nat.not_lt_zero _), by omega, by omega, fun _ => rfl, rfl⟩
                case round =>
                  obtain ⟨Z, q, rfl, h1, h2, h3, h4, rfl⟩ := hrel
                  have H1 := hid h1
                  clear h1
                  by_cases h0 : at' = 0
                  · obtain rfl := h4 h0
                    have HR : Hid (a = 0) := hid (by rw [HAA.out]; exact if_pos h0)
                    have g0 : decide (0 < at') = false := decide_eq_false (by omega)
                    clear h0 h4
                    go_upto_region 9 with fail
                    go_quiet (fail)
                    go_wp2_with fail
                    go_meet
                    exact ⟨by rw [HR.out]; rfl, _, drewN_add _ _ _⟩
                  · have HA2 : Hid (a = goes x len (x (at' - 1)) at') := hid (by rw [HAA.out]; exact if_neg h0)
                    have g0 : decide (0 < at') = true := decide_eq_true (by omega)
                    have g1 : 0 < at' := by omega
                    obtain ⟨E, hE⟩ : ∃ E : Nat, E = at' + Z := ⟨_, rfl⟩
                    obtain ⟨P, hP⟩ : ∃ P : Nat, P = at' - 1 := ⟨_, rfl⟩
                    have HE := hid hE
                    have HP := hid hP
                    clear hE hP
                    have w0 : IntKind.i64.wrap ((at' : Int) + (Z : Int)) = (E : Int) := by rw [IntWalk.i64_in _ (by omega), HE.out]; omega
                    have w1 : IntKind.i64.wrap ((at' : Int) - 1) = (P : Int) := by rw [IntWalk.i64_in _ (by omega), HP.out]; omega
                    have w2 : (P : Int) < (len : Int) := by rw [HP.out]; omega
                    have w2n : P < len := by rw [HP.out]; omega
                    by_cases q1 : at' + Z < len
                    · have q1' : decide ((E : Int) < (len : Int)) = true := decide_eq_true (by rw [HE.out]; omega)
                      have q1n : decide (E < len) = true := decide_eq_true (by rw [HE.out]; omega)
                      have q1'' : (E : Int) < (len : Int) := by rw [HE.out]; omega
                      have q1m : E < len := by rw [HE.out]; omega
                      have d1 := HXW.out E q1m
                      have d2 := HXW.out P w2n
                      have HW0 := hid (goes_min (x := x) (len := len) (v := x (at' - 1)) (cap := 6) (Z := Z) hle1)
                      rw [← HE.out, ← HP.out] at HW0
                      rw [← HP.out] at H1 HA2
                      by_cases q2 : x E = x P
                      · have HQ := hid q2
                        rw [q2] at d1
                        clear q2
                        by_cases q3 : Z < 6
                        · have q3' : decide ((Z : Int) < 6) = true := decide_eq_true (by omega)
                          have q3n : decide (Z < 6) = true := decide_eq_true (by omega)
                          generalize hu : x P = u at d1 d2
                          have HU := hid hu
                          clear hu
                          go_upto_region 9 with fail
                          go_quiet (fail)
                          go_wp2_with fail
                          go_roundw
                          case rel => exact ⟨Z + 1, _, by go_num, fun i hi => by
                            by_cases e : i < Z
                            · rw [← HP.out]; exact H1.out i e
                            · rw [show i = Z by omega, ← HE.out, ← HP.out]; exact HQ.out, by omega, by omega, fun h => absurd h h0, rfl⟩
                          case measure => simp [intOf]; omega
                        · have q3' : decide ((Z : Int) < 6) = false := decide_eq_false (by omega)
                          have q3n : decide (Z < 6) = false := decide_eq_false (by omega)
                          have HR := hid (HW0.out H1.out (by rw [HE.out]; exact h2) h3 (.inl (by omega)))
                          generalize x P = u at *
                          go_upto_region 9 with fail
                          go_quiet (fail)
                          go_wp2_with fail
                          go_meet
                          exact ⟨by rw [HR.out, HA2.out], _, drewN_add _ _ _⟩
                      · have HR := hid (HW0.out H1.out (by rw [HE.out]; exact h2) h3 (.inr (.inr q2)))
                        have q2' : (x E == x P) = false := by simpa using q2
                        generalize x E = t at *
                        generalize x P = u at *
                        clear q2 HW0
                        go_upto_region 9 with fail
                        go_quiet (fail)
                        go_wp2_with fail
                        go_meet
                        exact ⟨by rw [HR.out, HA2.out], _, drewN_add _ _ _⟩
                    · have q1' : decide ((E : Int) < (len : Int)) = false := decide_eq_false (by rw [HE.out]; omega)
                      have q1n : decide (E < len) = false := decide_eq_false (by rw [HE.out]; omega)
                      have HR := hid (goes_min (x := x) (len := len) (v := x (at' - 1)) (cap := 6) hle1 H1.out h2 h3 (.inr (.inl (by omega))))
                      go_upto_region 9 with fail
                      go_quiet (fail)
                      go_wp2_with fail
                      go_meet
                      exact ⟨by rw [HR.out, HA2.out], _, drewN_add _ _ _⟩
              case rest =>
                obtain ⟨rfl, q, rfl⟩ := hcut
                clear HZZ HAA
                have HO9 := hid (show OwnS (wc.drewN q) w.heap.size 47 _ o from HO.out)
                have HB9 := hid (below_drewN HB.out q)
                have hw9 := HB9.out.size
                generalize wc.drewN q = W at *
                obtain ⟨Zc, hZc⟩ : ∃ q : Nat, q = min 138 z := ⟨_, rfl⟩
                obtain ⟨Ac, hAc⟩ : ∃ q : Nat, q = min 6 a := ⟨_, rfl⟩
                rw [← hZc, ← hAc]
                have c2 := (HX.out.below HB9.out).at_ at' hlt
                clear c1
                rcases hnc with ⟨g1, e1, e2⟩ | ⟨g1, g2, e1, e2⟩ | ⟨g1, g2, e1, e2⟩ | ⟨g1, g2, e1, e2⟩ <;> rw [e1, e2] at HN <;> rw [e2] at hn <;> clear e1 e2
                · obtain ⟨M, hM⟩ : ∃ M : Nat, M = min (z - 11) 127 := ⟨_, rfl⟩
                  rw [show min z 138 = Zc by omega, ← hM] at HN
                  have w0 : IntKind.i64.wrap ((Zc : Int) - 11) = (M : Int) := by rw [IntWalk.i64_in _ (by omega)]; omega
                  have w1 : IntKind.i64.wrap ((at' : Int) + (Zc : Int)) = ((at' + Zc : Nat) : Int) := by rw [IntWalk.i64_in _ (by omega)]; omega
                  have k1 : (11 : Int) ≤ (Zc : Int) := by omega
                  have hZ1 : 1 ≤ Zc ∧ at' + Zc ≤ len := by omega
                  clear hM hZc hAc
                  go_wp2_with (at_builtin; refine wpList_append_own _ rfl _ _ 43 rfl w.heap.size 47 i0 (.agg #[.int .i64 0, .int .i64 0, .int .i64 0]) 3 24 und43 HI.out hz0 hz1 hz2 rfl (by decide) _ _ _ rfl ((HO9.out.alloc _).alloc _) _ 1 1 [.int .i64 18, .int .i64 7, .int .i64 (M : Int)] rfl rfl (World.news_of_block (heap_alloc2_new _ _ _)) (by simp [Value.oneCell']) (by simp [maxLen]; omega) (by omega) (by simp only [World.alloc, Array.size_push]; omega) ?_; intro v' w8 hown8 hgrow8 _; have R := hid (ownS_next (s := (18, 7, (M : Int))) HO9.out HB9.out hw9 hown8 hgrow8); clear hown8 hgrow8)
                  try (go_wp2_with fail)
                  go_roundw
                  case rel => exact ⟨j + 1, _, _, HN.out, by go_num, R.out.1, R.out.2⟩
                  case measure => simp [intOf]; omega
                · obtain ⟨M, hM⟩ : ∃ M : Nat, M = z - 3 := ⟨_, rfl⟩
                  obtain rfl : Zc = z := by omega
                  rw [← hM] at HN
                  have w0 : IntKind.i64.wrap ((Zc : Int) - 3) = (M : Int) := by rw [IntWalk.i64_in _ (by omega)]; omega
                  have w1 : IntKind.i64.wrap ((at' : Int) + (Zc : Int)) = ((at' + Zc : Nat) : Int) := by rw [IntWalk.i64_in _ (by omega)]; omega
                  have k1 : ¬ (11 : Int) ≤ (Zc : Int) := by omega
                  have k2 : (3 : Int) ≤ (Zc : Int) := by omega
                  clear hM hZc hAc
                  go_wp2_with (at_builtin; refine wpList_append_own _ rfl _ _ 43 rfl w.heap.size 47 i0 (.agg #[.int .i64 0, .int .i64 0, .int .i64 0]) 3 24 und43 HI.out hz0 hz1 hz2 rfl (by decide) _ _ _ rfl ((HO9.out.alloc _).alloc _) _ 1 1 [.int .i64 17, .int .i64 3, .int .i64 (M : Int)] rfl rfl (World.news_of_block (heap_alloc2_new _ _ _)) (by simp [Value.oneCell']) (by simp [maxLen]; omega) (by omega) (by simp only [World.alloc, Array.size_push]; omega) ?_; intro v' w8 hown8 hgrow8 _; have R := hid (ownS_next (s := (17, 3, (M : Int))) HO9.out HB9.out hw9 hown8 hgrow8); clear hown8 hgrow8)
                  try (go_wp2_with fail)
                  go_roundw
                  case rel => exact ⟨j + 1, _, _, HN.out, by go_num, R.out.1, R.out.2⟩
                  case measure => simp [intOf]; omega
                · obtain ⟨M, hM⟩ : ∃ M : Nat, M = min (a - 3) 3 := ⟨_, rfl⟩
                  rw [show min a 6 = Ac by omega, ← hM] at HN
                  have w0 : IntKind.i64.wrap ((Ac : Int) - 3) = (M : Int) := by rw [IntWalk.i64_in _ (by omega)]; omega
                  have w1 : IntKind.i64.wrap ((at' : Int) + (Ac : Int)) = ((at' + Ac : Nat) : Int) := by rw [IntWalk.i64_in _ (by omega)]; omega
                  have k1 : ¬ (11 : Int) ≤ (Zc : Int) := by omega
                  have k2 : ¬ (3 : Int) ≤ (Zc : Int) := by omega
                  have k3 : (3 : Int) ≤ (Ac : Int) := by omega
                  have hZ1 : 1 ≤ Ac ∧ at' + Ac ≤ len := by omega
                  clear hM hZc hAc
                  go_wp2_with (at_builtin; refine wpList_append_own _ rfl _ _ 43 rfl w.heap.size 47 i0 (.agg #[.int .i64 0, .int .i64 0, .int .i64 0]) 3 24 und43 HI.out hz0 hz1 hz2 rfl (by decide) _ _ _ rfl ((HO9.out.alloc _).alloc _) _ 1 1 [.int .i64 16, .int .i64 2, .int .i64 (M : Int)] rfl rfl (World.news_of_block (heap_alloc2_new _ _ _)) (by simp [Value.oneCell']) (by simp [maxLen]; omega) (by omega) (by simp only [World.alloc, Array.size_push]; omega) ?_; intro v' w8 hown8 hgrow8 _; have R := hid (ownS_next (s := (16, 2, (M : Int))) HO9.out HB9.out hw9 hown8 hgrow8); clear hown8 hgrow8)
                  try (go_wp2_with fail)
                  go_roundw
                  case rel => exact ⟨j + 1, _, _, HN.out, by go_num, R.out.1, R.out.2⟩
                  case measure => simp [intOf]; omega
                · have w1 : IntKind.i64.wrap ((at' : Int) + 1) = ((at' + 1 : Nat) : Int) := by rw [IntWalk.i64_in _ (by omega)]; omega
                  have k1 : ¬ (11 : Int) ≤ (Zc : Int) := by omega
                  have k2 : ¬ (3 : Int) ≤ (Zc : Int) := by omega
                  have k3 : ¬ (3 : Int) ≤ (Ac : Int) := by omega
                  clear hZc hAc
                  go_wp2_with (at_builtin; refine wpList_append_own _ rfl _ _ 43 rfl w.heap.size 47 i0 (.agg #[.int .i64 0, .int .i64 0, .int .i64 0]) 3 24 und43 HI.out hz0 hz1 hz2 rfl (by decide) _ _ _ rfl ((HO9.out.alloc _).alloc _) _ 1 1 [.int .i64 (x at'), .int .i64 0, .int .i64 0] rfl rfl (World.news_of_block (heap_alloc2_new _ _ _)) (by simp [Value.oneCell']) (by simp [maxLen]; omega) (by omega) (by simp only [World.alloc, Array.size_push]; omega) ?_; intro v' w8 hown8 hgrow8 _; have R := hid (ownS_next (s := ((x at'), 0, 0)) HO9.out HB9.out hw9 hown8 hgrow8); clear hown8 hgrow8)
                  try (go_wp2_with fail)
                  go_roundw
                  case rel => exact ⟨j + 1, _, _, HN.out, by go_num, R.out.1, R.out.2⟩
                  case measure => simp [intOf]; omega
      · have HF := hid (show ¬ Fine x len from fun h => by have := h.1; omega)
        go_wp2_with fail
        go_ret
        exact ⟨⟨_, rfl, fun h => absurd h HF.out⟩, HB.out⟩
    · have HD := hid (st_done HS.out hlt)
      have g0 : ¬ (at' : Int) < (len : Int) := by omega
      go_wp2_with fail
      go_ret
      exact ⟨⟨_, rfl, fun _ => by rw [HD.out]; exact HO.out⟩, HB.out⟩
end Run
end Go.Proofs.Ytdjlkacmaflhfaa
