/- LZ: LzBack's walk: any text's tokens make it again; at no level they are its bytes; of one byte, again and again, they are few. -/
import Derived.Test.YtlhgkemiakekoaaLzX
namespace Go.Proofs.Ytlhgkemiakekoaa
set_option linter.unusedVariables false
open Go.RowKit
attribute [local go_sem ↓] Go.wp_at_zero Go.wp_at_succ
namespace Lz
theorem takeB_all (s : ByteArray) : (⟨(takeB s s.size).toArray⟩ : ByteArray) = s := by
  apply ba_ext
  apply List.ext_getElem?
  intro i
  by_cases h : i < s.size
  · have h2 : i < s.data.size := h
    have e : byteT s i = (s.data[i]).toNat := by unfold byteT; rw [dif_pos h]; rfl
    simp [takeB, h, e]
  · have h2 : ¬ i < s.data.size := h
    have h3 : s.data.size ≤ i := by omega
    have h4 : s.size ≤ i := by omega
    simp [takeB, h4]
theorem expV_all {s : ByteArray} {o : List Tok} (h : Makes s s.size o) : expV (expT (tx o) (ty o) (tz o) o.length) = .tuple #[.string s, .bool true] := by
  rw [h.1]
  show Value.tuple #[.string ⟨(takeB s s.size).toArray⟩, .bool true] = _
  rw [takeB_all]
theorem again_made {s : ByteArray} {o : List Tok} {A : Option Addr} {g c : Nat} {w : World} (hs : s.size ≤ 65000) (h : Makes s s.size o) (hx : ToksAt w A g 0 o.length (tx o) (ty o) (tz o)) :
    Calls Try.prog 9 #[.slice A o.length c] w fun e w' => e = .returned (.tuple #[.string s, .bool true]) ∧ Below w.heap.size w w' := by
  have h1 := refExpand A g 0 o.length c _ _ _ w (by have := h.2.1; omega) hx (fun k hk => (h.2.2 k hk).1) (fun k hk => by have := (h.2.2 k hk).2; omega)
  rw [expV_all h] at h1
  exact h1
theorem ones_at {t : ByteArray} {n : Nat} (h : Str t (List.replicate n 120)) : ∀ i, i < t.size → byteT t i = 120 := by
  unfold Str at h
  subst h
  intro i hi
  unfold byteT
  rw [dif_pos hi]
  have hi' : i < n := by simpa [ByteArray.size] using hi
  show ((List.replicate n (120 : UInt8)).toArray[i]'(by simpa using hi')).toNat = 120
  simp
theorem ones_few {t : ByteArray} {n : Nat} (h : Str t (List.replicate n 120)) (hn : n ≤ 400) : Rp t := by
  have hs := h.size
  simp at hs
  refine ⟨by omega, fun i hi => ?_⟩
  rw [ones_at h i hi, ones_at h 0 (by omega)]

set_option maxRecDepth 100000 in
set_option maxHeartbeats 8000000 in
theorem back (s : ByteArray) (lv n : Int) (w : World) (hs : s.size ≤ 9223372036854775807) (hn0 : 0 ≤ n) (hn1 : n ≤ 18446744073709551615) :
    Calls Try.prog 5 #[.string s, .int .i64 lv, .int .u64 n] w fun e w' => e = .returned (.bool true) ∧ Below w.heap.size w w' := by
  go_enter Try.func5, Try.ntmps5
  go_upto_region 1 with fail
  go_cut [0] (fun st wx => ∃ T : ByteArray, T.size ≤ 600 ∧ st = .string T ∧ w = wx)
  case first =>
    by_cases h : (600 : Int) < (s.size : Int)
    · have h2 : (600 : Int) ≤ (s.size : Int) := by omega
      go_wp2_with fail
      go_meet
      exact ⟨_, by simp; omega, rfl, rfl⟩
    · have h2 : s.size ≤ 600 := by omega
      go_wp2_with fail
      all_goals go_meet
      all_goals exact ⟨_, by first | exact h2 | (simp; omega), rfl, rfl⟩
  case rest =>
    obtain ⟨T, hT, rfl, hwx⟩ := hcut
    subst hwx
    have HT := hid hT
    clear hT hs
    have M1 := hid (matchT T lv w (by have := HT.out; omega))
    go_wp2_with fail
    refine M1.out.mono ?_
    rintro e w1 ⟨⟨v, o, rfl, ho, hm, hz, hf⟩, b1⟩
    have B1 := hid b1
    obtain ⟨A1, c1, g1, rfl, hx1⟩ := OwnT.form ho
    have X1 := hid hx1
    have HM := hid hm
    have HZ := hid hz
    have hol : ¬ (T.size : Int) < (o.length : Int) := by have := hm.2.1; omega
    clear b1 ho hx1 hm hz hf M1
    go_wp2_with fail
    refine (again_made (by have := HT.out; omega) HM.out X1.out).mono ?_
    rintro e w2 ⟨rfl, b2⟩
    have B2 := hid (B1.out.trans (b2.mono B1.out.size))
    have X2 := hid (X1.out.below b2)
    clear b2
    go_upto_region 4 with fail
    go_cut [51] (fun v wx => v = .bool false ∧ Below w.heap.size w wx)
    case first =>
      by_cases hl : lv ≤ 0
      · have ho := HZ.out hl
        subst ho
        go_wp2_with fail
        refine (refBytes T _ (by have := HT.out; omega)).mono ?_
        rintro e w4 ⟨⟨v4, rfl, o4⟩, b4⟩
        have B4 := hid (B2.out.trans (b4.mono B2.out.size))
        obtain ⟨A4, c4, g4, rfl, h4⟩ := OwnT.form o4
        have H4 := hid h4
        have H5 := hid (X2.out.below b4)
        clear b4 o4 h4
        have S1 := hid (same A1 g1 0 _ c1 A4 g4 0 c4 _ _ _ w4 (by rw [bytesT_len]; have := HT.out; omega) H5.out H4.out)
        go_wp2_with fail
        refine S1.out.mono ?_
        rintro e w5 ⟨rfl, b5⟩
        have B5 := hid (B4.out.trans (b5.mono B4.out.size))
        clear b5
        go_wp2_with fail
        go_meet
        exact ⟨congrArg Value.bool (decide_eq_false (by omega)), B5.out⟩
      · go_wp2_with fail
        go_meet
        exact ⟨congrArg Value.bool (decide_eq_false (by omega)), B2.out⟩
    case rest =>
      obtain ⟨rfl, hB⟩ := hcut
      have HB0 := hid hB
      clear hB hol
      clear B1 B2 X1 X2 HM HZ
      have e2 : n.tmod 400 = n % 400 := Int.tmod_eq_emod_of_nonneg hn0
      obtain ⟨r, hr⟩ : ∃ r : Int, r = n % 400 := ⟨_, rfl⟩
      have ⟨r0, r1⟩ : 0 ≤ r ∧ r < 400 := by omega
      rw [← hr] at e2
      have e3 : IntKind.u64.wrap r = r := IntWalk.u64_in _ (by omega)
      have e6 := hr.symm
      obtain ⟨N, rfl⟩ := Int.eq_ofNat_of_zero_le r0
      have HN := hid (show N < 400 by omega)
      clear hr r0 r1
      go_upto_region 8 with fail
      go_loopw [10, 54] (fun q i wr => ∃ (j : Nat) (t : ByteArray), j ≤ N ∧ i = .int .u64 j ∧ q = .string t ∧ Str t (List.replicate j 120) ∧ Below w.heap.size w wr) (fun _ i _ => N - (intOf i).toNat)
      case atStart => exact ⟨0, ⟨#[]⟩, Nat.zero_le _, rfl, rfl, rfl, HB0.out⟩
      case round =>
        obtain ⟨j, t, hj, rfl, rfl, hst, hB⟩ := hrel
        have HST := hid hst
        have HB := hid hB
        clear hst hB
        by_cases hlt : j < N
        · have hji : (j : Int) < (N : Int) := by omega
          have w0 : IntKind.u64.wrap ((j : Int) + 1) = (j : Int) + 1 := IntWalk.u64_in _ (by have := HN.out; omega)
          have hsz : t.size = j := by have := HST.out.size; simpa using this
          have hszi : (t.size : Int) < 400 := by have := HN.out; omega
          go_wp2_with fail
          go_roundw
          case rel => exact ⟨j + 1, _, by omega, by go_num, rfl, by rw [List.replicate_succ']; exact HST.out.add 120, HB.out⟩
          case measure => simp [intOf]; omega
        · obtain rfl : j = N := by omega
          have hsz : t.size = j := by have := HST.out.size; simpa using this
          have HTS := hid (show t.size ≤ 400 by have := HN.out; omega)
          have HRP := hid (ones_few HST.out (by have := HN.out; omega))
          clear hlt
          go_wp2_with fail
          refine (matchT t lv wr (by have := HTS.out; omega)).mono ?_
          rintro e w1 ⟨⟨v, o2, rfl, ho, hm, hz, hf⟩, b1⟩
          have B1 := hid (HB.out.trans (b1.mono HB.out.size))
          obtain ⟨A1, c1, g1, rfl, hx1⟩ := OwnT.form ho
          have X1 := hid hx1
          have HM := hid hm
          have HF := hid hf
          have HOL := hid (show o2.length ≤ 400 by have := hm.2.1; have := HTS.out; omega)
          clear b1 ho hx1 hm hz hf
          go_wp2_with fail
          refine (again_made (by have := HTS.out; omega) HM.out X1.out).mono ?_
          rintro e w2 ⟨rfl, b2⟩
          have B2 := hid (B1.out.trans (b2.mono B1.out.size))
          clear b2
          by_cases hl : lv ≤ 0
          · go_wp2_with fail
            refine (lives _).mono ?_
            rintro e w7 ⟨rfl, b7⟩
            go_wp2_with fail
            go_ret
            exact ⟨rfl, B2.out.trans (b7.mono B2.out.size)⟩
          · have HFE := hid (show 2 * (o2.length : Int) ≤ (j : Int) + 4 by have := HF.out (by omega) HRP.out; omega)
            have hfew : (2 * (o2.length : Int)) ≤ (t.size : Int) + 4 := by have := HF.out (by omega) HRP.out; omega
            have w1 : IntKind.i64.wrap (2 * (o2.length : Int)) = 2 * (o2.length : Int) := IntWalk.i64_in _ (by have := HOL.out; omega)
            have w2 : IntKind.i64.wrap ((t.size : Int) + 4) = (t.size : Int) + 4 := IntWalk.i64_in _ (by have := HTS.out; omega)
            go_wp2_with fail
            refine (lives _).mono ?_
            rintro e w7 ⟨rfl, b7⟩
            go_wp2_with fail
            go_ret
            refine ⟨?_, B2.out.trans (b7.mono B2.out.size)⟩
            show Ending.returned (Value.bool (decide (lv ≤ 0) || decide (2 * (o2.length : Int) ≤ (j : Int) + 4))) = _
            rw [decide_eq_true HFE.out, Bool.or_true]
end Lz
end Go.Proofs.Ytlhgkemiakekoaa
