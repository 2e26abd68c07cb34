/- HuffReads: the walk. -/
import Derived.Test.YthgjijjalfhhcaaHrE
import Derived.Test.YthgjijjalfhhcaaHufP
namespace Go.Proofs.Ythgjijjalfhhcaa
set_option linter.unusedVariables false
open Go.RowKit
open Go.Proofs.Huf
namespace Huff

theorem dcF_of {w W W' : World} {D b0 : Nat} {g : Nat → Nat} {N : Nat} {v : Value} (h : Dc w W D b0 (cntV g N) v (syT g N 15)) (hb : Below W.heap.size W W') (G : Nat) (hG : W.heap.size ≤ G) : DcF W' D G g N := by
  have hlt := h.lt
  refine ⟨Nat.lt_of_lt_of_le hlt hb.size, by omega, fun n hn => ?_, ?_⟩
  · rw [hb.cell (p := ⟨D, n, none⟩) hlt, cell_of_row _ _ _ _ _ _ h.blk, push_at _ _ _ (cntV_size _ _) hn]
    exact cntV_at _ _ _ hn
  · have hc : W'.cell? ⟨D, 16, none⟩ = some v := by
      rw [hb.cell (p := ⟨D, 16, none⟩) hlt, cell_of_row _ _ _ _ _ _ h.blk]
      exact push_end _ _ (cntV_size _ _)
    rcases h.own.2 with ⟨rfl, hx⟩ | ⟨E, cap, cur, rfl, _, he, _, _, _, hxs⟩
    · refine ⟨none, 0, by rw [hx]; exact hc, fun i hi => ?_⟩
      rw [hx] at hi
      omega
    · refine ⟨some ⟨E, 0, none⟩, cap, hc, fun i hi => ?_⟩
      have hEl : E < W.heap.size := (Array.getElem?_eq_some_iff.1 he).1
      refine ⟨E, rfl, by omega, Nat.lt_of_lt_of_le hEl hb.size, ?_⟩
      rw [hb.cell (p := ⟨E, i, none⟩) hEl]
      have := h.own.cellAt i (by omega)
      rw [this]
      unfold symV
      rw [List.getElem?_map, List.getD_eq_getElem?_getD, List.getElem?_eq_getElem hi]
      rfl

set_option maxRecDepth 100000 in
set_option maxHeartbeats 2000000 in
theorem walkReads_no (A : Option Addr) (b off len cap : Nat) (s : ByteArray) (x : Nat → Int) (K : Nat) (w : World) (hx : Ints w b off len x) (hs : s.size ≤ maxLen)
    (hkind : ∀ w, Ints w b off len x → Calls Try.prog 16 #[.slice A len cap] w fun e w' => e = .returned (.int .i64 (K : Int)) ∧ Below w.heap.size w w')
    (href : ∀ w, Ints w b off len x → Calls Try.prog 17 #[.slice A len cap] w fun e w' => e = .returned (.int .i64 (K : Int)) ∧ w = w') (hk : K = 3 ∨ K = 0) (hm : len ≤ 9223372036854775807) :
    Calls Try.prog 4 #[.slice A len cap, .string s] w fun e w' => e = .returned (.bool true) ∧ Below w.heap.size w w' := by
  unfold maxLen at hs
  have HK := hid hkind
  have HF := hid href
  have HX := hid hx
  have HKK := hid hk
  clear hkind href hx hk
  go_enter Try.func4, Try.ntmps4
  go_upto_region 1 with fail
  go_cut [1, 20, 21] (fun v _ _ wx => ∃ t : ByteArray, t.size ≤ 40 ∧ v = .string t ∧ wx = w)
  case first =>
    go_wp2
    all_goals go_meet
    · exact ⟨s.extract 0 40, by simp; omega, rfl, rfl⟩
    · exact ⟨s, by omega, rfl, rfl⟩
  case rest =>
    obtain ⟨t, ht, rfl, hw⟩ := hcut
    have hw' := hw.symm
    subst hw'
    clear hw hs
    by_cases h60 : 60 < len
    · have h60i : decide (60 < (len : Int)) = true := by rw [decide_eq_true_iff]; omega
      go_wp2_with fail
      refine (lives _).mono ?_
      rintro e w1 ⟨rfl, hb1⟩
      have H1 := hid hb1
      clear hb1
      go_wp2_with fail
      go_ret
      exact ⟨rfl, H1.out⟩
    · have h60i : decide (60 < (len : Int)) = false := by rw [decide_eq_false_iff_not]; omega
      go_wp2_with fail
      refine (new_no A b off len cap x K _ HX.out HK.out HKK.out).mono ?_
      rintro e w1 ⟨rfl, hb1⟩
      have H1 := hid hb1
      have HX1 := hid (HX.out.below hb1)
      clear hb1
      go_wp2_with fail
      refine (HF.out _ HX1.out).mono ?_
      rintro e w2 ⟨rfl, rfl⟩
      rcases HKK.out with rfl | rfl
      all_goals
        go_wp2_with fail
        refine (rread t _).mono ?_
        rintro e w3 ⟨rfl, hw3⟩
        have H3 := hid (show Below w.heap.size w w3 from by rw [hw3]; exact H1.out.alloc H1.out.size _)
        clear hw3
        go_wp2_with fail
        refine (nextNil _ _).mono ?_
        rintro e w4 ⟨rfl, rfl⟩
        go_wp2_with fail
        refine (lives _).mono ?_
        rintro e w5 ⟨rfl, hb5⟩
        have H5 := hid (H3.out.trans (hb5.mono H3.out.size))
        clear hb5
        go_wp2_with fail
        go_ret
        exact ⟨rfl, H5.out⟩

theorem kindOf_lt (r : Nat) : kindOf r = 0 ∨ kindOf r = 1 ∨ kindOf r = 2 ∨ kindOf r = 3 := by
  unfold kindOf
  split
  · exact .inl rfl
  · split
    · exact .inr (.inr (.inl rfl))
    · split
      · exact .inr (.inl rfl)
      · exact .inr (.inr (.inr rfl))

theorem Only.block' {g : Nat} {w w' : World} (h : Only g w w') {k : Nat} {o : Obj} (hk : w.heap[k]? = some o) (hn : k ≠ g) : w'.heap[k]? = some o :=
  (h.block k (Array.getElem?_eq_some_iff.1 hk).1 hn).trans hk

/-- What is read by two readers stays as another block changes. -/
theorem dcF_other {W W' : World} {D G H : Nat} {g : Nat → Nat} {N : Nat} (h1 : DcF W D G g N) (h2 : DcF W D H g N) (ho : Only G W W') : DcF W' D H g N := by
  obtain ⟨Q, cap, a1, a2⟩ := h2.sym
  obtain ⟨Q', cap', b1, b2⟩ := h1.sym
  rw [a1] at b1
  obtain ⟨rfl, rfl⟩ : Q = Q' ∧ cap = cap' := by simpa using b1
  refine ⟨Nat.lt_of_lt_of_le h2.lt ho.size, h2.ne, fun n hn => (only_cell ho h2.lt h1.ne).trans (h2.cnt n hn), Q, cap, (only_cell ho h2.lt h1.ne).trans a1, fun i hi => ?_⟩
  obtain ⟨E, a, b, c, d⟩ := a2 i hi
  obtain ⟨E', a', b', c', d'⟩ := b2 i hi
  rw [a] at a'
  obtain rfl : E = E' := by simpa using a'
  exact ⟨E, a, b, Nat.lt_of_lt_of_le c ho.size, (only_cell ho c b').trans d⟩
theorem lcF_other {W W' : World} {G H b off : Nat} {R : Option Addr} {x : Nat → Int} {N : Nat} (h1 : LcF W G b off R x N) (h2 : LcF W H b off R x N) (ho : Only G W W') : LcF W' H b off R x N := by
  refine ⟨fun i hi => ?_, fun i hi => ?_⟩
  · obtain ⟨a, c, d⟩ := h2.len i hi
    obtain ⟨a', _, _⟩ := h1.len i hi
    exact ⟨a, Nat.lt_of_lt_of_le c ho.size, (only_cell ho c a').trans d⟩
  · obtain ⟨C, a, c, d, e⟩ := h2.cod i hi
    obtain ⟨C', a', c', _, _⟩ := h1.cod i hi
    rw [a] at a'
    obtain rfl : C = C' := by simpa using a'
    exact ⟨C, a, c, Nat.lt_of_lt_of_le d ho.size, (only_cell ho d c').trans e⟩

/-- Both readers, side by side, and what they read by. -/
structure Both4 (w W : World) (D G H b off : Nat) (R : Option Addr) (x : Nat → Int) (N : Nat) (s : ByteArray) (p : Nat) (b1 : Bool) (q : Nat) (b2 : Bool) : Prop where
  rd : RdB W G s p b1
  rf : Rf W H s q b2
  ne : G ≠ H
  d1 : DcF W D G (natOf x) N
  d2 : DcF W D H (natOf x) N
  l1 : LcF W G b off R x N
  l2 : LcF W H b off R x N
  below : Below w.heap.size w W
  g : w.heap.size ≤ G
  h : w.heap.size ≤ H
theorem Both4.stepG {w W W' : World} {D G H b off : Nat} {R : Option Addr} {x : Nat → Int} {N : Nat} {s : ByteArray} {p q p' : Nat} {b1 b2 b1' : Bool} (hb : Both4 w W D G H b off R x N s p b1 q b2) (ho : Only G W W') (hr : RdB W' G s p' b1') :
    Both4 w W' D G H b off R x N s p' b1' q b2 :=
  ⟨hr, ho.block' hb.rf (fun e => hb.ne e.symm), hb.ne, hb.d1.only ho, dcF_other hb.d1 hb.d2 ho, hb.l1.only ho, lcF_other hb.l1 hb.l2 ho, ho.below hb.below hb.g, hb.g, hb.h⟩
theorem Both4.stepH {w W W' : World} {D G H b off : Nat} {R : Option Addr} {x : Nat → Int} {N : Nat} {s : ByteArray} {p q q' : Nat} {b1 b2 b2' : Bool} (hb : Both4 w W D G H b off R x N s p b1 q b2) (ho : Only H W W') (hr : Rf W' H s q' b2') :
    Both4 w W' D G H b off R x N s p b1 q' b2' :=
  ⟨ho.block' hb.rd hb.ne, hr, hb.ne, dcF_other hb.d2 hb.d1 ho, hb.d2.only ho, lcF_other hb.l2 hb.l1 ho, hb.l2.only ho, ho.below hb.below hb.h, hb.g, hb.h⟩

set_option maxRecDepth 100000 in
set_option maxHeartbeats 2000000 in
theorem walkReads_yes (A : Option Addr) (b off len cap : Nat) (s : ByteArray) (x : Nat → Int) (w : World) (hA : 0 < len → A = some ⟨b, off, none⟩) (hx : Ints w b off len x) (hs : s.size ≤ maxLen)
    (hf : Fine len x) (hk : kindOf (wT (natOf x) len) = 1 ∨ kindOf (wT (natOf x) len) = 2) :
    Calls Try.prog 4 #[.slice A len cap, .string s] w fun e w' => e = .returned (.bool true) ∧ Below w.heap.size w w' := by
  unfold maxLen at hs
  have HA := hid hA
  have HF := hid hf
  have HX := hid hx
  have HKK := hid hk
  have hlen := hf.1
  clear hA hf hx hk
  go_enter Try.func4, Try.ntmps4
  go_upto_region 1 with fail
  go_cut [1, 20, 21] (fun v _ _ wx => ∃ t : ByteArray, t.size ≤ 40 ∧ v = .string t ∧ wx = w)
  case first =>
    go_wp2
    all_goals go_meet
    · exact ⟨s.extract 0 40, by simp; omega, rfl, rfl⟩
    · exact ⟨s, by omega, rfl, rfl⟩
  case rest =>
    obtain ⟨t, ht, rfl, hw⟩ := hcut
    have hw' := hw.symm
    subst hw'
    clear hw hs
    by_cases h60 : 60 < len
    · have h60i : decide (60 < (len : Int)) = true := by rw [decide_eq_true_iff]; omega
      go_wp2_with fail
      refine (lives _).mono ?_
      rintro e w1 ⟨rfl, hb1⟩
      have H1 := hid hb1
      clear hb1
      go_wp2_with fail
      go_ret
      exact ⟨rfl, H1.out⟩
    · have h60i : decide (60 < (len : Int)) = false := by rw [decide_eq_false_iff_not]; omega
      go_wp2_with fail
      refine (new_yes A b off len cap x _ HA.out HX.out HF.out HKK.out).mono ?_
      rintro e w1 ⟨D, b0, v0, rfl, hdc⟩
      have HDC := hid hdc
      have HX1 := hid (HX.out.below hdc.below)
      clear hdc
      go_wp2_with fail
      refine (refKind_yes A b off len cap x _ HA.out HX1.out HF.out).mono ?_
      rintro e w2 ⟨rfl, rfl⟩
      have hkd := HKK.out
      have HK3 := hid (show kindOf (wT (natOf x) len) ≠ 3 from by omega)
      generalize kindOf (wT (natOf x) len) = kd at hkd HKK ⊢
      rcases hkd with rfl | rfl
      all_goals
        go_wp2_with fail
        refine (rread t _).mono ?_
        rintro e w3 ⟨rfl, hw3⟩
        have hrd3 : Rd w3 w1.heap.size t 0 := by rw [hw3]; exact heap_alloc_new _ _
        have hb3 : Below w1.heap.size w1 w3 := by rw [hw3]; exact (Below.refl _ _).alloc (Nat.le_refl _) _
        have hsz3 : w3.heap.size = w1.heap.size + 1 := by rw [hw3]; simp
        have HRD := hid hrd3
        have HB3 := hid hb3
        have HS3 := hid hsz3
        clear hrd3 hb3 hsz3 hw3
        go_upto_region 12 with fail
        have hrf4 : Rf (w3.alloc (.cells #[.string t, .int .i64 0, .bool false] 39)) w3.heap.size t 0 false := heap_alloc_new _ _
        have HRF := hid hrf4
        have HB4 := hid (show Below w3.heap.size w3 (w3.alloc (.cells #[.string t, .int .i64 0, .bool false] 39)) from (Below.refl _ _).alloc (Nat.le_refl _) _)
        have HS4 := hid (show (w3.alloc (.cells #[.string t, .int .i64 0, .bool false] 39)).heap.size = w3.heap.size + 1 from by simp)
        clear hrf4
        generalize w3.alloc (.cells #[.string t, .int .i64 0, .bool false] 39) = W4 at HRF HB4 HS4 ⊢
        have HX4 := hid ((HX1.out.below HB3.out).below HB4.out)
        go_wp2_with fail
        refine (refCodes_yes A b off len cap x _ HA.out HX4.out HF.out HK3.out).mono ?_
        rintro e w5 ⟨C, hC, rfl, hrow, hb5⟩
        have HBB := hid (show Below w1.heap.size w1 w5 from HB3.out.trans ((HB4.out.mono HB3.out.size).trans (hb5.mono (Nat.le_trans HB3.out.size HB4.out.size))))
        have HBO := hid (show Both4 w w5 D w1.heap.size w3.heap.size b off (some ⟨C, 0, none⟩) x len t 0 false 0 false from by
          have s3 := HS3.out
          have s4 := HS4.out
          have hw1 := HDC.out.below.size
          have hbl : 0 < len → b < w.heap.size := HX.out.lt
          have hC5 : C < w5.heap.size := (Array.getElem?_eq_some_iff.1 hrow).1
          have hlc : ∀ G, w.heap.size ≤ G → G < C → LcF w5 G b off (some ⟨C, 0, none⟩) x len := fun G hG hGC =>
            ⟨fun i hi => ⟨by have := hbl (by omega); omega, Nat.lt_of_lt_of_le (hbl (by omega)) (Nat.le_trans hw1 HBB.out.size), (HX4.out.below hb5).at_ i hi⟩,
             fun i hi => ⟨C, rfl, by omega, hC5, by rw [cell_of_row _ _ _ _ _ _ hrow, cdV_at _ _ _ _ hi, if_pos hi]⟩⟩
          refine ⟨?_, ?_, by omega, dcF_of HDC.out HBB.out _ (Nat.le_refl _), dcF_of HDC.out HBB.out _ (by omega), hlc _ hw1 (by omega), hlc _ (by omega) (by omega), HDC.out.below.trans (HBB.out.mono hw1), hw1, by omega⟩
          · exact (hb5.block _ (by omega)).trans ((HB4.out.block _ (by omega)).trans HRD.out)
          · exact (hb5.block _ (by omega)).trans HRF.out)
        clear hC hrow hb5 HBB HB3 HB4 HRD HRF HX4 HX1 HDC HS3 HS4
        generalize w1.heap.size = G at HBO ⊢
        generalize w3.heap.size = H at HBO ⊢
        go_wp2_with fail
        go_loopw [4, 13, 14, 15, 16, 72] (fun _ _ _ _ _ i wr => ∃ j p : Nat, j ≤ 320 ∧ i = .int .i64 j ∧ p ≤ 8 * t.size ∧ Both4 w wr D G H b off (some ⟨C, 0, none⟩) x len t p false p false) (fun _ _ _ _ _ i _ => 320 - (intOf i).toNat)
        case atStart => exact ⟨0, 0, by omega, rfl, by omega, HBO.out⟩
        case round =>
          obtain ⟨j, p, hj, rfl, hp, hbo⟩ := hrel
          have HO := hid hbo
          have HP := hid hp
          clear hbo HBO hp
          by_cases hlt : j < 320
          · go_wp2_with fail
            refine (nextP D G t p (natOf x) len _ HO.out.d1 HO.out.rd (by omega) HP.out hlen).mono ?_
            rintro e w6 ⟨rfl, hr6, ho6⟩
            have HO6 := hid (HO.out.stepG ho6 hr6)
            clear hr6 ho6
            go_wp2_with fail
            refine (refNext A (some ⟨C, 0, none⟩) b off len cap len H t p x _ HA.out HO6.out.l2 HF.out HO6.out.rf (by omega) HP.out).mono ?_
            rintro e w7 ⟨rfl, hr7, ho7⟩
            have HO7 := hid (HO6.out.stepH ho7 hr7)
            have HLE := hid (dec_le (natOf x) len (numS t) (8 * t.size) 15 p 0 0 HP.out).1
            have HBD := hid (dec_bad (natOf x) len (numS t) (8 * t.size) 15 p 0 0)
            clear hr7 ho7 HO6 HO
            generalize decF (natOf x) len (numS t) (8 * t.size) 15 p 0 0 = o at HO7 HLE HBD ⊢
            obtain ⟨ov, ok, op, obad⟩ := o
            have HBE := hid (show ok = true → obad = false from fun h => by
              cases obad with
              | false => rfl
              | true => have := HBD.out rfl; rw [h] at this; cases this)
            have HO8 := hid (show Both4 w w7 D G H b off (some ⟨C, 0, none⟩) x len t op obad op obad from HO7.out)
            have HLF := hid (show op ≤ 8 * t.size from HLE.out)
            clear HO7 HLE HBD
            cases ok with
            | false =>
              go_wp2_with fail
              refine (lives _).mono ?_
              rintro e w8 ⟨rfl, hb8⟩
              have H8 := hid (HO8.out.below.trans (hb8.mono HO8.out.below.size))
              clear hb8
              go_wp2_with fail
              go_ret
              exact ⟨rfl, H8.out⟩
            | true =>
              have hbe := HBE.out rfl
              subst hbe
              go_wp2_with fail
              go_roundw
              case rel => exact ⟨j + 1, op, by omega, by go_num, HLF.out, HO8.out⟩
              case measure => simp [intOf]; omega
          · go_wp2_with fail
            refine (lives _).mono ?_
            rintro e w8 ⟨rfl, hb8⟩
            have H8 := hid (HO.out.below.trans (hb8.mono HO.out.below.size))
            clear hb8
            go_wp2_with fail
            go_ret
            exact ⟨rfl, H8.out⟩

theorem walkReads (A : Option Addr) (b off len cap : Nat) (s : ByteArray) (x : Nat → Int) (w : World) (hA : 0 < len → A = some ⟨b, off, none⟩) (hx : Ints w b off len x) (hs : s.size ≤ maxLen) (hm : len ≤ 9223372036854775807) :
    Calls Try.prog 4 #[.slice A len cap, .string s] w fun e w' => e = .returned (.bool true) ∧ Below w.heap.size w w' := by
  by_cases hf : Fine len x
  · rcases kindOf_lt (wT (natOf x) len) with h | h | h | h
    · exact walkReads_no A b off len cap s x _ w hx hs (fun w h => kind_yes A b off len cap x w hA h hf) (fun w h => refKind_yes A b off len cap x w hA h hf) (.inr h) hm
    · exact walkReads_yes A b off len cap s x w hA hx hs hf (.inl h)
    · exact walkReads_yes A b off len cap s x w hA hx hs hf (.inr h)
    · exact walkReads_no A b off len cap s x _ w hx hs (fun w h => kind_yes A b off len cap x w hA h hf) (fun w h => refKind_yes A b off len cap x w hA h hf) (.inl h) hm
  · exact walkReads_no A b off len cap s x 3 w hx hs (fun w h => kind_no A b off len cap x w hA h hm hf) (fun w h => refKind_no A b off len cap x w hA h hm hf) (.inl rfl) hm
end Huff
end Go.Proofs.Ythgjijjalfhhcaa
