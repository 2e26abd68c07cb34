/- LZ: the tokens of a text make it again. -/
import Derived.Test.YtlhgkemiakekoaaLzV
import Derived.Laws.MakeOwn
namespace Go.Proofs.Ytlhgkemiakekoaa
set_option linter.unusedVariables false
open Go.RowKit Go.Maps
attribute [local go_sem ↓] Go.wp_at_zero Go.wp_at_succ
namespace Lz
theorem made_map (w w' : World) (h : w'.heap[w.heap.size]? = some (.map #[] 0)) : w'.ownsMap (H := Unit) Try.prog 57 (plainElem Try.prog 3) w.heap.size 0 (.map []) := by
  obtain ⟨es, clock, h1, h2, h3, h4⟩ := World.ownsMap_made (H := Unit) w Try.prog 57 (plainElem Try.prog 3)
  rw [heap_alloc_new] at h1
  simp only [Option.some.injEq, Obj.map.injEq] at h1
  obtain ⟨rfl, rfl⟩ := h1
  exact ⟨_, _, h, h2, h3, h4⟩
theorem zeros_at (n i : Nat) (h : i < n) : (madeCells #[.int .i64 0] n)[i]? = some (.int .i64 0) := by
  unfold madeCells
  simp [h, Nat.mod_one]
theorem ch_new {w w' : World} {s : ByteArray} {G : Nat} (hG : w.heap.size + 1 < G) (hm : w'.heap[w.heap.size]? = some (.map #[] 0))
    (ho : w'.ownsRow (w.heap.size + 1) 3 1 (.slice (some ⟨w.heap.size + 1, 0, none⟩) s.size s.size) s.size (madeCells #[.int .i64 0] s.size).toList)
    (hg : w'.heap[G]? = some (.cells #[.string s, .map (some w.heap.size), .slice (some ⟨w.heap.size + 1, 0, none⟩) s.size s.size] 52 (0, 0))) : Ch w' s G w.heap.size (w.heap.size + 1) 0 := by
  refine ⟨hg, ⟨.map [], made_map w w' hm, isMap_empty, fun a b c l v _ e => ?_⟩, ?_, by omega, by omega, by omega⟩
  · have : (DataW.map [] : DataW Unit).atKey l (.lit (.int .i64 0)) = .lit (.int .i64 0) := rfl
    rw [this] at e
    simp at e
    exact ⟨.inl e.symm, fun _ q hq => absurd hq (by omega)⟩
  · rcases ho.2 with ⟨h, _⟩ | ⟨g, cap, cur, h1, h2, h3, h4, h5, h6, h7⟩
    · simp at h
    · simp only [Value.slice.injEq, Option.some.injEq, Addr.mk.injEq] at h1
      obtain ⟨⟨rfl, _⟩, _, rfl⟩ := h1
      refine ⟨cur, fun _ => 0, h3, fun i hi => ⟨?_, .inl rfl⟩⟩
      have e1 := congrArg (fun l => l[i]?) h7
      simp only [Nat.mul_one] at e1
      rw [List.getElem?_take_of_lt hi] at e1
      rw [← Array.getElem?_toList, e1, Array.getElem?_toList]
      exact zeros_at _ _ hi
theorem Ch.grownT {W W' : World} {s : ByteArray} {G B R n : Nat} {base m : Nat} {v : Value} {xs : List Value} (h : Ch W s G B R n) (ho : W.ownsRow base 24 3 v m xs) (hg : W.grownBy W' v.ownBlock) : Ch W' s G B R n := by
  obtain ⟨D, h1, h2, h3⟩ := h.mp
  obtain ⟨cs, f, h4, h5⟩ := h.rR
  refine ⟨grown_keeps3 ho hg h.rG (by decide), ⟨D, h1.kept hg (fun e => ?_), h2, h3⟩, ⟨cs, f, grown_keeps3 ho hg h4 (by decide), h5⟩, h.ne1, h.ne2, h.ne3⟩
  obtain ⟨es, clock, e1, _⟩ := h1
  rcases ho.2 with ⟨rfl, _⟩ | ⟨g, cap, cur, rfl, _, hgc, _⟩
  · simp [Value.ownBlock] at e
  · simp only [Value.ownBlock, Option.some.injEq] at e
    subst e
    rw [e1] at hgc
    simp at hgc
theorem ownT_off {w w' : World} {base R B : Nat} {v : Value} {o : List Tok} {cs : Array Value} (h : OwnT w base v o) (hf : Off R B w w') (hR : w.heap[R]? = some (.cells cs 3 (0, 0))) (hB : ∀ cs T f, w.heap[B]? ≠ some (.cells cs T f)) : OwnT w' base v o := by
  refine ⟨h.1, ?_⟩
  rcases h.2 with hl | ⟨g, cap, cur, h1, h2, h3, h4⟩
  · exact .inl hl
  · refine .inr ⟨g, cap, cur, h1, h2, (hf.block g (Array.getElem?_eq_some_iff.1 h3).1 (fun e => ?_) (fun e => ?_)).trans h3, h4⟩
    · subst e
      rw [h3] at hR
      simp at hR
    · subst e
      exact hB _ _ _ h3
theorem Ch.offs {W : World} {s : ByteArray} {G B R n : Nat} (h : Ch W s G B R n) : (∃ cs, W.heap[R]? = some (.cells cs 3 (0, 0))) ∧ ∀ cs T f, W.heap[B]? ≠ some (.cells cs T f) := by
  obtain ⟨D, ⟨es, clock, e1, _⟩, _, _⟩ := h.mp
  obtain ⟨cs, f, h4, _⟩ := h.rR
  exact ⟨⟨cs, h4⟩, fun cs T f => by rw [e1]; simp⟩

set_option maxRecDepth 100000 in
set_option maxHeartbeats 4000000 in
theorem matchT (s : ByteArray) (lv : Int) (w : World) (hs : s.size ≤ 65000) :
    Calls Try.prog 17 #[.string s, .int .i64 lv] w fun e w' => (∃ v o, e = .returned v ∧ OwnT w' w.heap.size v o ∧ Makes s s.size o ∧ (lv ≤ 0 → o = bytesT s s.size) ∧ (1 ≤ lv → Few s s.size o)) ∧ Below w.heap.size w w' := by
  have hs' : ¬ (65000 : Int) < (s.size : Int) := by omega
  obtain ⟨i0, hi, hz0, hz1, hz2⟩ := info_parts info24
  have HI := hid hi
  clear hi
  go_enter Try.func17, Try.ntmps17
  go_upto_region 1 with fail
  go_cut [1] (fun v wx => v = .int .i64 (min (max lv 0) 9) ∧ w = wx)
  case first =>
    go_wp2_with fail
    all_goals go_meet
    all_goals exact ⟨by congr 1; simp only [Int.max_def, Int.min_def] at *; (repeat' split) <;> omega, rfl⟩
  case rest =>
    obtain ⟨rfl, rfl⟩ := hcut
    obtain ⟨E, hE⟩ : ∃ E : Int, E = min (max lv 0) 9 := ⟨_, rfl⟩
    rw [← hE]
    have HE := hid hE
    have ⟨e0, e9⟩ : 0 ≤ E ∧ E ≤ 9 := by omega
    clear hE
    by_cases hE0 : E = 0
    · have HL0 := hid (show lv ≤ 0 by have := HE.out; omega)
      clear HE
      subst hE0
      have HP := hid (plain s w (by omega) hs)
      go_wp2_with fail
      refine HP.out.mono ?_
      rintro e w1 ⟨⟨v, rfl, ho⟩, b1⟩
      go_wp2_with fail
      go_ret
      exact ⟨⟨_, _, rfl, ho, makes_bytes hs s.size (Nat.le_refl _), fun _ => rfl, fun h => by have := HL0.out; omega⟩, b1⟩
    · have hE1 : (E == 0) = false := by simpa using hE0
      have HLV := hid (show 1 ≤ lv by have := HE.out; omega)
      clear HE
      have HC := hid (chains s w (by omega))
      obtain ⟨en, hen⟩ := Int.eq_ofNat_of_zero_le e0
      subst hen
      have he1 : 1 ≤ en ∧ en ≤ 9 := by omega
      clear hE0
      go_wp2_with fail
      refine HC.out.mono ?_
      rintro e w1 ⟨G, rfl, hG, hm, ho, hg, b1⟩
      have HCH := hid (ch_new hG hm ho hg)
      have HB := hid b1
      have HGG := hid hG
      clear hm ho hg b1 hG
      go_upto_region 7 with fail
      go_loopw [6, 7] (fun l i wr => ∃ (p : Nat) (o : List Tok), p ≤ s.size ∧ i = .int .i64 p ∧ OwnT wr w.heap.size l o ∧ Makes s p o ∧ Few s p o ∧ Ch wr s G w.heap.size (w.heap.size + 1) p ∧ Below w.heap.size w wr) (fun _ i _ => s.size - (intOf i).toNat)
      case atStart => exact ⟨0, [], Nat.zero_le _, rfl, World.ownsRow_nil _ _ _ _, makes_nil s, few_nil s, HCH.out, HB.out⟩
      case round =>
        obtain ⟨p, o, hp, rfl, hown, hmk, hfew, hch, hB⟩ := hrel
        have HF := hid hfew
        clear hfew
        have HO := hid hown
        have HM := hid hmk
        have HCW := hid hch
        have HBW := hid hB
        clear hown hmk hch hB
        by_cases hlt : p < s.size
        · have hlti : (p : Int) < (s.size : Int) := by omega
          go_wp2_with fail
          obtain ⟨T, hT⟩ : ∃ T : Int, T = wrap64 (2 ^ en) := ⟨_, rfl⟩
          rw [← hT]
          have hT1 : 1 ≤ T ∧ T ≤ 1000 := by
            have h9 : en = 1 ∨ en = 2 ∨ en = 3 ∨ en = 4 ∨ en = 5 ∨ en = 6 ∨ en = 7 ∨ en = 8 ∨ en = 9 := by omega
            rcases h9 with rfl | rfl | rfl | rfl | rfl | rfl | rfl | rfl | rfl <;> rw [hT] <;> decide +kernel
          have HTT := hid hT1
          clear hT hT1
          refine (best s G w.heap.size (w.heap.size + 1) p T wr (by omega) hlt HTT.out.1 HTT.out.2 HCW.out).mono ?_
          rintro e w2 ⟨⟨x, y, z, L, rfl, hgood, hrep⟩, b2⟩
          obtain ⟨N, rfl, hN1, hN2⟩ := good_le hlt hgood
          have hxr := good_range hgood
          have HF2 := hid (few_next (t := (x, y, z)) hlt HF.out rfl hN1 hN2 hrep)
          clear hrep
          have HM2 := hid (makes_next hs hlt HM.out hgood rfl hN1 hN2)
          have HO2 := hid (own_below HO.out b2)
          have HC2 := hid (HCW.out.step b2)
          have HB2 := hid (HBW.out.trans (b2.mono HBW.out.size))
          have hz := HB2.out.size
          have hol := HM.out.2.1
          have HN := hid (And.intro hN1 hN2)
          clear hgood b2 hN1 hN2
          go_wp2_with (at_builtin; (refine wpList_append_own _ rfl _ _ 22 rfl w.heap.size 24 i0 (.agg #[.int .u8 0, .int .i64 0, .int .i64 0]) 3 24 und22 HI.out hz0 hz1 hz2 rfl (by decide) _ _ _ rfl ((HO2.out.alloc _).alloc _) _ 1 1 [.int .u8 x, .int .i64 y, .int .i64 z] rfl rfl (World.news_of_block (heap_alloc2_new _ _ _)) (by simp [Value.oneCell']) (by simp [maxLen]; omega) (by omega) (by simp only [World.alloc, Array.size_push]; omega) ?_; intro v' w8 hown8 hgrow8 _; have R := hid (And.intro (ownT_next (s := (x, y, z)) (W := w2.alloc (.cells #[.int .u8 x, .int .i64 y, .int .i64 z] 24)) (HO2.out.alloc _) (HB2.out.alloc hz _) (by simp; omega) hown8 hgrow8) (((HC2.out.step ((Below.refl _ _).alloc (Nat.le_refl _) _)).step ((Below.refl _ _).alloc (Nat.le_refl _) _)).grownT ((HO2.out.alloc _).alloc _) hgrow8)); clear hown8 hgrow8))
          try (go_wp2_with fail)
          obtain ⟨wo, rfl⟩ : ∃ wo : World, wo = wr := ⟨_, rfl⟩
          go_loopw [7, 41] (fun i k wr => ∃ K : Nat, K ≤ N ∧ i = .int .i64 ((p + K : Nat) : Int) ∧ k = .int .i64 K ∧ OwnT wr w.heap.size v' (o ++ [(x, y, z)]) ∧ Ch wr s G w.heap.size (w.heap.size + 1) (p + K) ∧ Below w.heap.size w wr) (fun _ k _ => N - (intOf k).toNat)
          case atStart => exact ⟨0, by omega, rfl, rfl, R.out.1.1, R.out.2, R.out.1.2⟩
          case round =>
            obtain ⟨K, hK, rfl, rfl, hown, hch, hB⟩ := hrel
            have HO3 := hid hown
            have HC3 := hid hch
            have HB3 := hid hB
            clear hown hch hB
            by_cases hk : K < N
            · have hpk : p + K < s.size := by have := HN.out; omega
              have hN8 : (N : Int) ≤ 70000 := by have := HN.out; omega
              have PC := hid (put s G w.heap.size (w.heap.size + 1) (p + K) w.heap.size wr (by omega) hpk HC3.out HB3.out.size (Nat.le_refl _) (by omega))
              have w0 : IntKind.i64.wrap (((p + K : Nat) : Int) + 1) = ((p + (K + 1) : Nat) : Int) := by rw [IntWalk.i64_in _ (by omega)]; omega
              obtain ⟨Q, hQ⟩ : ∃ Q, Q = p + K := ⟨_, rfl⟩
              have HQ := hid hQ
              rw [← hQ] at PC w0 ⊢
              clear hQ hpk
              go_wp2_with fail
              refine PC.out.mono ?_
              rintro e w9 ⟨⟨v, rfl⟩, hch9, b9, off9⟩
              have HB4 := hid (HB3.out.trans b9)
              have HO4 := hid (ownT_off HO3.out off9 HC3.out.offs.1.choose_spec HC3.out.offs.2)
              have HC4 := hid hch9
              clear b9 off9 hch9
              go_wp2_with fail
              go_roundw
              case rel => exact ⟨K + 1, by omega, by first | rfl | go_num, by go_num, HO4.out, by have h9 := HC4.out; rw [HQ.out] at h9; exact h9, HB4.out⟩
              case measure => simp [intOf]; omega
            · obtain rfl : K = N := by omega
              go_wp2_with fail
              go_roundw
              case rel => exact ⟨p + K, _, by have := HN.out; omega, rfl, HO3.out, HM2.out, HF2.out, HC3.out, HB3.out⟩
              case measure => have := HN.out; simp [intOf]; omega
        · obtain rfl : p = s.size := by omega
          go_wp2_with fail
          go_ret
          exact ⟨⟨_, _, rfl, HO.out, HM.out, fun h => by have := HLV.out; omega, fun _ => HF.out⟩, HBW.out⟩
end Lz
end Go.Proofs.Ytlhgkemiakekoaa
