/- LZ: LzLimit's walk: texts at the edge of what a text may have. -/
import Derived.Test.YtlhgkemiakekoaaLzW
namespace Go.Proofs.Ytlhgkemiakekoaa
set_option linter.unusedVariables false
open Go.RowKit
attribute [local go_sem ↓] Go.wp_at_zero Go.wp_at_succ
namespace Lz
/-- A row of so many bytes. -/
def Zs (W : World) (g k : Nat) : Prop := ∃ (cs : Array Value) (f : Nat → Int), W.heap[g]? = some (.cells cs 5 (0, 0)) ∧ ∀ i, i < k → cs[i]? = some (.int .u8 (f i)) ∧ 0 ≤ f i ∧ f i < 256
theorem zeros8_at (n i : Nat) (h : i < n) : (madeCells #[.int .u8 0] n)[i]? = some (.int .u8 0) := by
  unfold madeCells
  simp [h, Nat.mod_one]
theorem zs_new {W : World} {g k : Nat} (h : W.ownsRow g 5 1 (.slice (some ⟨g, 0, none⟩) k k) k (madeCells #[.int .u8 0] k).toList) : Zs W g k := by
  rcases h.2 with ⟨h1, _⟩ | ⟨g', cap, cur, h1, h2, h3, h4, h5, h6, h7⟩
  · simp at h1
  · simp only [Value.slice.injEq, Option.some.injEq, Addr.mk.injEq] at h1
    obtain ⟨⟨rfl, _⟩, _, rfl⟩ := h1
    refine ⟨cur, fun _ => 0, h3, fun i hi => ⟨?_, by show (0 : Int) ≤ 0; omega, by show (0 : Int) < 256; omega⟩⟩
    have e1 := congrArg (fun l => l[i]?) h7
    simp only [Nat.mul_one] at e1
    rw [List.getElem?_take_of_lt hi] at e1
    rw [← Array.getElem?_toList, e1, Array.getElem?_toList]
    exact zeros8_at _ _ hi
theorem Zs.set {W : World} {g k : Nat} (h : Zs W g k) (i : Nat) {b : Int} (h0 : 0 ≤ b) (h1 : b < 256) : Zs (W.setCell ⟨g, i, none⟩ (.int .u8 b)) g k := by
  obtain ⟨cs, f, h2, h3⟩ := h
  refine ⟨cs.setIfInBounds i (.int .u8 b), fun j => if j = i then b else f j, heap_setCell_same _ _ _ _ _ _ h2, fun j hj => ?_⟩
  by_cases e : j = i
  · subst e
    obtain ⟨a, _⟩ := h3 j hj
    have hl := (Array.getElem?_eq_some_iff.1 a).1
    simp [hl, h0, h1]
  · simp only [if_neg e]
    rw [Array.getElem?_setIfInBounds_ne (Ne.symm e)]
    exact h3 j hj
theorem Zs.drew {W : World} {g k : Nat} (h : Zs W g k) : Zs W.drew g k := h
theorem Zs.at_ {W : World} {g k : Nat} (h : Zs W g k) {i : Nat} (hi : i < k) : ∃ x, W.cell? ⟨g, i, none⟩ = some x ∧ W.frozen? ⟨g, i, none⟩ = false := by
  obtain ⟨cs, f, h2, h3⟩ := h
  exact ⟨_, by rw [cell_of_row _ _ _ _ _ _ h2]; exact (h3 i hi).1, frozen_of_row _ _ _ _ _ h2⟩
theorem Zs.conv {W : World} {g k : Nat} (h : Zs W g k) : ∃ T : ByteArray, T.size = k ∧ (convert 38 9 (.slice (some ⟨g, 0, none⟩) k k)).run Try.prog W = .ok (.string T) W := by
  obtain ⟨cs, f, h2, h3⟩ := h
  have hl : ((List.range k).map fun i => UInt8.ofNat (f i).toNat).length = k := by simp
  refine ⟨⟨((List.range k).map fun i => UInt8.ofNat (f i).toNat).toArray⟩, by simp [ByteArray.size], ?_⟩
  have key := run_convert_bytes_back (P := Try.prog) W 38 9 5 ⟨g, 0, none⟩ k ((List.range k).map fun i => UInt8.ofNat (f i).toNat) und38 Try.underlying5 Try.underlying9 (fun j hj => by
    have hadd : (⟨g, 0, none⟩ : Addr).add j = ⟨g, j, none⟩ := by unfold Addr.add; split <;> simp_all
    rw [hl] at hj
    obtain ⟨a0, a1, a2⟩ := h3 j hj
    rw [hadd, cell_of_row W g j cs 5 (0, 0) h2, a0]
    simp only [List.getElem_map, List.getElem_range]
    rw [u8_back a1 a2])
  rw [hl] at key
  exact key
theorem makes_pos {s : ByteArray} {o : List Tok} (h : Makes s s.size o) (hs : 0 < s.size) : 0 < o.length := by
  rcases Nat.eq_zero_or_pos o.length with h0 | h0
  · obtain rfl : o = [] := List.eq_nil_of_length_eq_zero h0
    have h1 := h.1
    have h2 : ([] : List UInt8) = takeB s s.size := Option.some.inj h1
    have h3 := congrArg List.length h2
    rw [takeB_len] at h3
    simp at h3
    omega
  · exact h0
theorem makes_is {s : ByteArray} {o : List Tok} (h : Makes s s.size o) : (expT (tx o) (ty o) (tz o) o.length).isSome = true := by rw [h.1]; rfl

set_option maxRecDepth 100000 in
theorem match_long (s : ByteArray) (w : World) (hs : 65000 < s.size) (h9 : s.size ≤ 9223372036854775807) :
    Calls Try.prog 17 #[.string s, .int .i64 1] w fun e w' => e = .returned (.slice none 0 0) ∧ Below w.heap.size w w' := by
  have hs' : (65000 : Int) < (s.size : Int) := by omega
  have HP := hid (plain_long s w hs)
  clear hs
  go_enter Try.func17, Try.ntmps17
  go_wp2_with fail
  refine HP.out.mono ?_
  rintro e w1 ⟨rfl, rfl⟩
  go_wp2_with fail
  go_ret
  exact ⟨rfl, Below.refl _ _⟩

set_option maxRecDepth 100000 in
set_option maxHeartbeats 4000000 in
theorem limit (b n : Int) (w : World) (hb0 : 0 ≤ b) (hb1 : b < 256) (hn0 : 0 ≤ n) (hn1 : n ≤ 18446744073709551615) :
    Calls Try.prog 6 #[.int .u8 b, .int .u64 n] w fun e w' => e = .returned (.bool true) ∧ Below w.heap.size w w' := by
  obtain ⟨i0, hi, hz0, hz1, hz2⟩ := info_parts info5
  have HI := hid hi
  clear hi
  go_enter Try.func6, Try.ntmps6
  go_upto_region 1 with fail
  go_cut [5] (fun v wx => ∃ k : Nat, 64990 ≤ (k : Int) ∧ (k : Int) ≤ 65009 ∧ v = .int .i64 k ∧ w = wx)
  case first =>
    have e1 : n % 20 = n % 20 := rfl
    have e2 : n.tmod 20 = n % 20 := Int.tmod_eq_emod_of_nonneg hn0
    obtain ⟨r, hr⟩ : ∃ r : Int, r = n % 20 := ⟨_, rfl⟩
    have ⟨r0, r1⟩ : 0 ≤ r ∧ r < 20 := by omega
    rw [← hr] at e1 e2
    have e3 : IntKind.u64.wrap r = r := IntWalk.u64_in _ (by omega)
    have e4 : IntKind.i64.wrap r = r := IntWalk.i64_in _ (by omega)
    have e5 : IntKind.i64.wrap (64990 + r) = 64990 + r := IntWalk.i64_in _ (by omega)
    have e6 := hr.symm
    clear hr e1
    go_wp2_with fail
    go_meet
    exact ⟨(64990 + r).toNat, by omega, by omega, by (congr 1; omega), rfl⟩
  case rest =>
    obtain ⟨k, hk0, hk1, rfl, hwx⟩ := hcut
    subst hwx
    have HK := hid (And.intro hk0 hk1)
    clear hk0 hk1
    go_upto_region 4 with (refine wpList_make_full _ rfl _ _ 38 rfl w.heap.size 5 i0 (.int .u8 0) 1 und38 HI.out hz0 hz1 .i64 .i64 (k : Int) (k : Int) k rfl rfl rfl rfl (by have := HK.out; rw [hz2]; omega) (by have := HK.out; unfold maxLen; omega) (Nat.le_refl _) ?_; intro w1 ho1 hg1; have HG := hid hg1; have HO := hid ho1; clear hg1 ho1)
    try (go_upto_region 4 with fail)
    have ho := HO.out
    simp only [Nat.mul_one, Value.cells] at ho
    have HZ0 := hid (zs_new ho)
    have HB0 := hid (show Below w.heap.size w w1 from (Below.refl _ w).grown HG.out (Nat.le_refl _) (fun k hk => by cases hk))
    clear ho
    go_loopw [19] (fun i wr => ∃ j : Nat, j ≤ k ∧ i = .int .i64 j ∧ Zs wr w.heap.size k ∧ Below w.heap.size w wr) (fun i _ => k - (intOf i).toNat)
    case atStart => exact ⟨0, Nat.zero_le _, rfl, HZ0.out, HB0.out⟩
    case round =>
      obtain ⟨j, hj, rfl, hZ, hB⟩ := hrel
      have HZ := hid hZ
      have HB := hid hB
      clear hZ hB
      by_cases hlt : j < k
      · obtain ⟨x, cR, fR⟩ := HZ.out.at_ hlt
        have hji : (j : Int) < (k : Int) := by omega
        have w0 : IntKind.i64.wrap ((j : Int) + 1) = (j : Int) + 1 := IntWalk.i64_in _ (by have := HK.out; omega)
        go_wp2_with fail
        go_roundw
        case rel => exact ⟨j + 1, by omega, by go_num, (HZ.out.set j hb0 hb1), (HB.out.setCell (p := ⟨w.heap.size, j, none⟩) (Nat.le_refl _) _)⟩
        case measure => simp [intOf]; omega
      · obtain rfl : j = k := by omega
        obtain ⟨T, hT, hcv⟩ := HZ.out.conv
        have HT := hid hT
        clear hT
        by_cases h : (65000 : Int) < (j : Int)
        · have hs : 65000 < T.size := by have := HT.out; omega
          have hs9 : T.size ≤ 9223372036854775807 := by have := HT.out; have := HK.out; omega
          have HS := hid (And.intro hs hs9)
          clear hs hs9
          go_wp2_with fail
          refine (match_long T _ HS.out.1 HS.out.2).mono ?_
          rintro e w2 ⟨rfl, b2⟩
          have HB2 := hid (HB.out.trans (b2.mono HB.out.size))
          clear b2
          go_wp2_with fail
          refine (plain_long T _ HS.out.1).mono ?_
          rintro e w3 ⟨rfl, rfl⟩
          go_wp2_with fail
          refine (lives _).mono ?_
          rintro e w4 ⟨rfl, b4⟩
          go_wp2_with fail
          go_ret
          exact ⟨rfl, HB2.out.trans (b4.mono HB2.out.size)⟩
        · have hs : T.size ≤ 65000 := by have := HT.out; omega
          have HS := hid (And.intro hs (show 0 < T.size by have := HT.out; have := HK.out; omega))
          clear hs
          go_wp2_with fail
          refine (matchT T 1 _ HS.out.1).mono ?_
          rintro e w2 ⟨⟨v, o, rfl, ho2, hm2, _⟩, b2⟩
          have HB2 := hid (HB.out.trans (b2.mono HB.out.size))
          obtain ⟨A2, cap2, g2, rfl, hx2⟩ := OwnT.form ho2
          have HX2 := hid hx2
          have HM := hid (makes_is hm2)
          have hpos := makes_pos hm2 HS.out.2
          have hmle := hm2.2.1
          have hol : o.length ≤ 1000000 := by have := HS.out; omega
          have HOL := hid hol
          have hpi : (0 : Int) < (o.length : Int) := by omega
          clear ho2 hx2 hm2 b2 hmle hol hpos
          go_wp2_with fail
          refine (plain T _ (by have := HS.out; omega) HS.out.1).mono ?_
          rintro e w3 ⟨⟨v, rfl, ho3⟩, b3⟩
          have HB3 := hid (HB2.out.trans (b3.mono HB2.out.size))
          have HX3 := hid (HX2.out.below b3)
          obtain ⟨A3, cap3, g3, rfl, hx4⟩ := OwnT.form ho3
          have HX4 := hid hx4
          have HMP := hid (makes_is (makes_bytes HS.out.1 T.size (Nat.le_refl _)))
          have hbl := bytesT_len T T.size
          have hbj : ((bytesT T T.size).length : Int) = (j : Int) := by rw [hbl, HT.out]
          have HBL := hid hbl
          have R2 := hid (fun W h => right A2 g2 0 o.length cap2 (tx o) (ty o) (tz o) W HOL.out h)
          have R4 := hid (fun W h => right A3 g3 0 (bytesT T T.size).length cap3 (tx (bytesT T T.size)) (ty (bytesT T T.size)) (tz (bytesT T T.size)) W (by rw [HBL.out]; have := HS.out; omega) h)
          rw [HM.out] at R2
          rw [HMP.out] at R4
          clear ho3 hx4 b3 hbl
          go_wp2_with fail
          refine (R2.out _ HX3.out).mono ?_
          rintro e w5 ⟨rfl, b5⟩
          have HB5 := hid (HB3.out.trans (b5.mono HB3.out.size))
          have HX5 := hid (HX4.out.below b5)
          clear b5
          go_wp2_with fail
          refine (R4.out _ HX5.out).mono ?_
          rintro e w6 ⟨rfl, b6⟩
          have HB6 := hid (HB5.out.trans (b6.mono HB5.out.size))
          clear b6
          go_wp2_with fail
          refine (lives _).mono ?_
          rintro e w7 ⟨rfl, b7⟩
          go_wp2_with fail
          go_ret
          exact ⟨rfl, HB6.out.trans (b7.mono HB6.out.size)⟩
end Lz
end Go.Proofs.Ytlhgkemiakekoaa
