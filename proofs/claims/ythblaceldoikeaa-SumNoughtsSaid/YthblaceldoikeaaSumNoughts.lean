/- For every state, every number and any two texts: the state behind so many noughts, and the sum of two texts from theirs, are the document's. No condition. -/
import Derived.Test.YthblaceldoikeaaSumN
import Derived.Test.YthblaceldoikeaaSumL
import Derived.Test.YthblaceldoikeaaEnd
namespace Go.Proofs.Ythblaceldoikeaa
set_option linter.unusedVariables false
open Go.ChangeShapes Go.WideShapes Go.ChangeAt Go.RowKit
open Go.ChangeMaps (open_string shut_string)
open Go.Proofs.Crc

def bigI (s : Int) : Int := nulI s 2147483648

theorem noughts_big (s n : Int) (w : World) (h0 : 0 ≤ s) (h1 : s < 4294967296) (n0 : 2147483648 ≤ n) (n1 : n ≤ 9223372036854775807) :
    Calls Try.prog 40 #[.int .u32 s, .int .i64 n] w fun e w' => e = .returned (.int .u32 (bigI s)) ∧ Below w.heap.size w w' := by
  refine (noughts s n w h0 h1 (by omega) n1).mono ?_
  rintro e w' ⟨rfl, hB⟩
  have e1 : manyN n = 2147483648 := by unfold manyN; omega
  exact ⟨ret_u32 (by rw [e1]; rfl), hB⟩

theorem join_texts (A B : ByteArray) (h : B.size ≤ 1000) : joinI (ofI A.data.toList) (ofI B.data.toList) (manyN (B.size : Int)) = ofI (A ++ B).data.toList := by
  have e : manyN (B.size : Int) = B.data.toList.length := by unfold manyN; simp; omega
  rw [e, join_of, add_bytes]

theorem ofI_bd (l : List UInt8) : 0 ≤ ofI l ∧ ofI l < 4294967296 := by
  have := feedI_bd 4294967295 l (by omega) (by omega)
  unfold ofI; omega

set_option maxRecDepth 100000 in
set_option maxHeartbeats 1000000 in
theorem sumNoughts (st n : Int) (s u : ByteArray) (w : World) (h0 : 0 ≤ st) (h1 : st < 4294967296) (n0 : -9223372036854775808 ≤ n) (n1 : n ≤ 9223372036854775807) (hs : s.size ≤ maxLen) (hu : u.size ≤ maxLen) :
    Calls Try.prog 7 #[.int .u32 st, .int .i64 n, .agg #[.string s, .string u]] w fun e w' => e = .returned (.bool true) ∧ Below w.heap.size w w' := by
  unfold maxLen at hs hu
  go_enter Try.func7, Try.ntmps7
  go_upto_region 1 with fail
  go_cut [7, 8] (fun s7 s8 wx => ∃ A B : ByteArray, s7 = .string A ∧ s8 = .string B ∧ A.size ≤ 1000 ∧ B.size ≤ 1000 ∧ Below w.heap.size w wx)
  case first =>
    go_quiet (fail)
    go_wp2_with fail
    all_goals go_meet
    all_goals exact ⟨_, _, rfl, rfl, by first | (rw [ByteArray.size_extract]; omega) | omega, by first | (rw [ByteArray.size_extract]; omega) | omega, below_box _ _ _⟩
  case rest =>
    obtain ⟨A, B, rfl, rfl, hA2, hB2, hbel⟩ := hcut
    have HL := hid hbel; clear hbel hs hu
    by_cases hn : 2000 < n
    · go_wp2_with fail
      refine (noughts_big st _ _ h0 h1 (by omega) (by omega)).mono ?_
      rintro e w2 ⟨rfl, hB3⟩
      have HB3 := hid hB3; clear hB3
      go_wp2_with fail
      refine (noughts_big st _ _ h0 h1 (by omega) (by omega)).mono ?_
      rintro e w3 ⟨rfl, hB4⟩
      have HB4 := hid hB4; clear hB4
      go_wp2_with fail
      refine (lives _).mono ?_
      rintro e w4 ⟨rfl, hB5⟩
      have HB5 := hid hB5; clear hB5
      go_wp2_with fail
      go_ret
      have a := HL.out
      have b := a.trans (HB3.out.mono a.size)
      have c := b.trans (HB4.out.mono b.size)
      exact ⟨rfl, c.trans (HB5.out.mono c.size)⟩
    · have HAm : Hid (A.size ≤ maxLen) := by unfold Hid maxLen; omega
      have HBm : Hid (B.size ≤ maxLen) := by unfold Hid maxLen; omega
      have HAB : Hid ((A ++ B).size ≤ maxLen) := by unfold Hid maxLen; rw [ByteArray.size_append]; omega
      have HC := hid (show ∀ w', (Op.stringOp .add A B).run Try.prog w' = .ok (.string (A ++ B)) w' from fun w' => run_string_add_sum w' A B (by omega))
      have HJ := hid (join_texts A B hB2)
      obtain ⟨ha0, ha1⟩ := ofI_bd A.data.toList
      have HC2 : ∀ w', (Op.stringOp .add A B).run Try.prog w' = .ok (.string (A ++ B)) w' := HC.out
      obtain ⟨N, hN, hN2, hcase⟩ : ∃ N : Nat, manyN n = N ∧ N ≤ 2000 ∧ (n = N ∨ (n < 0 ∧ N ≤ 0)) := ⟨manyN n, rfl, by unfold manyN; omega, by unfold manyN; omega⟩
      have HN := hid hN
      clear hN hn
      rcases hcase with rfl | ⟨hneg, hzero⟩
      · go_wp2_with fail
        go_loop [9, 37] (fun x i => ∃ k : Nat, k ≤ N ∧ i = .int .i64 k ∧ x = .int .u32 (nulI st k)) (fun _ i => N - (intOf i).toNat)
        case atStart => exact ⟨0, by omega, rfl, ret_q (nulI_zero st h0).symm⟩
        case round =>
          obtain ⟨k, hk, rfl, rfl⟩ := hrel
          obtain ⟨b0, b1⟩ := nulI_bd st k h0 h1
          by_cases hlt : k < N
          · have HX := hid (nulI_next st k)
            go_wp2_with (go_at_call 31; refine (refByteI _ _ _ b0 b1 (by omega) (by omega)).mono ?_; rintro e w' ⟨rfl, rfl⟩)
            go_round
            case rel => exact ⟨k + 1, by omega, by go_num, ret_q HX.out⟩
            case measure => simp [intOf]; omega
          · have HK := hid (show manyN _ = k from HN.out.trans (by omega))
            go_wp2_with fail
            refine (noughts st _ _ h0 h1 n0 n1).mono ?_
            rintro e w2 ⟨rfl, hB3⟩
            rw [HK.out]
            have HB3 := hid hB3; clear hB3
            go_wp2_with fail
            refine (refOf A _ HAm.out).mono ?_
            rintro e w' ⟨rfl, rfl⟩
            go_wp2_with fail
            refine (refOf B _ HBm.out).mono ?_
            rintro e w' ⟨rfl, rfl⟩
            go_wp2_with fail
            refine (join _ _ _ _ ha0 ha1 (by omega) (by omega)).mono ?_
            rintro e w3 ⟨rfl, hB4⟩
            rw [HJ.out]
            have HB4 := hid hB4; clear hB4
            go_wp2_with fail
            refine (refOf (A ++ B) _ HAB.out).mono ?_
            rintro e w' ⟨rfl, rfl⟩
            go_wp2_with fail
            refine (lives _).mono ?_
            rintro e w4 ⟨rfl, hB5⟩
            have HB5 := hid hB5; clear hB5
            go_wp2_with fail
            go_ret
            have a := HL.out
            have b := a.trans (HB3.out.mono a.size)
            have c := b.trans (HB4.out.mono b.size)
            exact ⟨rfl, c.trans (HB5.out.mono c.size)⟩
      · have HK := hid (show manyN n = 0 from HN.out.trans (by omega))
        clear hzero
        go_wp2_with fail
        go_loop [9, 37] (fun x i => i = .int .i64 0 ∧ x = .int .u32 (nulI st 0)) (fun _ i => 0)
        case atStart => exact ⟨rfl, ret_q (nulI_zero st h0).symm⟩
        case round =>
            obtain ⟨rfl, rfl⟩ := hrel
            go_wp2_with fail
            refine (noughts st _ _ h0 h1 n0 n1).mono ?_
            rintro e w2 ⟨rfl, hB3⟩
            rw [HK.out]
            have HB3 := hid hB3; clear hB3
            go_wp2_with fail
            refine (refOf A _ HAm.out).mono ?_
            rintro e w' ⟨rfl, rfl⟩
            go_wp2_with fail
            refine (refOf B _ HBm.out).mono ?_
            rintro e w' ⟨rfl, rfl⟩
            go_wp2_with fail
            refine (join _ _ _ _ ha0 ha1 (by omega) (by omega)).mono ?_
            rintro e w3 ⟨rfl, hB4⟩
            rw [HJ.out]
            have HB4 := hid hB4; clear hB4
            go_wp2_with fail
            refine (refOf (A ++ B) _ HAB.out).mono ?_
            rintro e w' ⟨rfl, rfl⟩
            go_wp2_with fail
            refine (lives _).mono ?_
            rintro e w4 ⟨rfl, hB5⟩
            have HB5 := hid hB5; clear hB5
            go_wp2_with fail
            go_ret
            have a := HL.out
            have b := a.trans (HB3.out.mono a.size)
            have c := b.trans (HB4.out.mono b.size)
            exact ⟨rfl, c.trans (HB5.out.mono c.size)⟩

namespace SumNoughts
set_option maxRecDepth 100000 in
theorem lifted (os : Os) (started : os.Started) (H : Type) (enc : TypeId × Value → H) :
    ReturnsInHanded {} Try.checked os 7 .any (Rows.sumNoughtsSpec.pre6 enc Try.prog Try.f7 Rows.sumNoughtsRow.domain false) (Rows.sumNoughtsSpec.post enc Try.prog Try.f7 false true false false) := by
  refine returnsInHanded_of_change (C := Try.checked) own started (by kernel_rfl) Try.func7
    (ChangeSpec.witness6 (enc := enc) (C := Try.checked) false ⟨#[], #[.int .u32 0, .int .i64 0, .agg #[.string ByteArray.empty, .string ByteArray.empty]], []⟩ 8 (by kernel_rfl) (by kernel_rfl) (by kernel_rfl) (by kernel_rfl)) ?_
  intro W base args ds gs before hval0 hW hcnd _
  have hval : ∀ (j : Nat) t v, Try.f7.params[j]? = some t → args[j]? = some v → Value.okWide Try.prog W .any base t v := hval0
  have hW' := hW
  obtain ⟨p, q, hA0, hV, rfl, hfz, hnd⟩ := hW
  have hA : DataW.TrodAll enc Try.prog W 0 (fun _ => true) true Try.f7.params.toList args.toList ds p := hA0
  rw [Try.params7] at hA hval
  obtain ⟨v0, v1, v2, d0, d1, d2, p0, p1, p2, rfl, rfl, rfl, h0, h1, h2⟩ := trodAll_three hA
  obtain ⟨a0, rfl, rfl, rfl, w0⟩ := open_int Try.underlying53 (hval 0 53 v0 rfl rfl) h0
  obtain ⟨a1, rfl, rfl, rfl, w1⟩ := open_int Try.underlying3 (hval 1 3 v1 rfl rfl) h1
  obtain ⟨s, u, rfl, hs, hu⟩ := open_two (hval 2 54 v2 rfl rfl) h2
  obtain ⟨b0, b1⟩ := u32_bd w0
  obtain ⟨b2, b3⟩ := i64_bd w1
  refine (sumNoughts a0 a1 s u W b0 b1 b2 b3 hs hu).mono fun e W' ⟨he, bel⟩ => ?_
  subst he
  exact ⟨_, rfl, law_post Try.f7 Rows.sumNoughtsSpec rfl (by kernel_rfl) rfl hW' (fun h => by subst h; exact ⟨rfl, rfl, rfl⟩) bel⟩

theorem proved : Rows.SumNoughtsSaid :=
  OpenClaim.holds_of_wide 7 Try.f7 rfl rfl rfl rfl rfl rfl rfl ⟨rfl, rfl, rfl, rfl, rfl⟩ rfl rfl rfl rfl rfl (by kernel_rfl) Try.func7 (by kernel_rfl)
    (of_decide_eq_true (by kernel_rfl)) (by unfold Func.isWrapper; first | (rw [if_pos (by decide +kernel)]; kernel_rfl) | (rw [if_neg (by decide +kernel)]; exact ⟨rfl, rfl⟩))
    (fun os started H enc _ => lifted os started H enc)
end SumNoughts
end Go.Proofs.Ythblaceldoikeaa
