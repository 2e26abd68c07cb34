/- LZ: the tokens of a text of one byte; the document's example. -/
import Derived.Test.YtlhgkemiakekoaaLzK
namespace Go.Proofs.Ytlhgkemiakekoaa
set_option linter.unusedVariables false
open Go.RowKit
attribute [local go_sem ↓] Go.wp_at_zero Go.wp_at_succ
namespace Lz
theorem grown_keeps3 {w w' : World} {base n k : Nat} {v : Value} {xs : List Value} {t : TypeId} {cs : Array Value} (ho : w.ownsRow base 24 3 v n xs) (hg : w.grownBy w' v.ownBlock) (hb : w.heap[k]? = some (.cells cs t (0, 0))) (ht : t ≠ 24) :
    w'.heap[k]? = some (.cells cs t (0, 0)) := by
  have hlt := (Array.getElem?_eq_some_iff.1 hb).1
  have hne : some k ≠ v.ownBlock := by
    intro e
    rcases ho.2 with ⟨rfl, rfl⟩ | ⟨g, cap, cur, rfl, _, hgc, _⟩
    · simp [Value.ownBlock] at e
    · simp only [Value.ownBlock, Option.some.injEq] at e
      subst e
      rw [hb] at hgc
      simp only [Option.some.injEq, Obj.cells.injEq] at hgc
      exact ht hgc.2.1
  exact (hg.block k hlt hne).trans hb
set_option maxRecDepth 100000 in
theorem put1 (G : Nat) (s : ByteArray) (hs : s.size = 1) (mv sv : Value) (w : World) (hG : w.heap[G]? = some (.cells #[.string s, mv, sv] 52 (0, 0))) :
    Calls Try.prog 22 #[.pointer (some ⟨G, 0, none⟩), .int .i64 0] w fun e w' => (∃ v, e = .returned v) ∧ Below w.heap.size w w' := by
  have HK := hid (keyAt_no s 0 G w (by omega) (by omega) (by omega) (by omega) (Array.getElem?_eq_some_iff.1 hG).1 (cell30 hG))
  clear hs
  go_enter Try.func22, Try.ntmps22
  go_wp2_with fail
  refine HK.out.mono ?_
  rintro e w1 ⟨rfl, b1⟩
  go_wp2_with fail
  go_returns
  exact ⟨⟨_, rfl⟩, b1.alloc b1.size _⟩
set_option maxRecDepth 100000 in
set_option maxHeartbeats 2000000 in
theorem match1 (s : ByteArray) (hs : s.size = 1) (w : World) :
    Calls Try.prog 17 #[.string s, .int .i64 9] w fun e w' => (∃ (A : Option Addr) (c : Nat), e = .returned (.slice A 1 c)) ∧ Below w.heap.size w w' := by
  have hs' : (s.size : Int) = 1 := by omega
  have HC := hid (chains s w (by omega))
  obtain ⟨i0, hi, hz0, hz1, hz2⟩ := info_parts info24
  have HI := hid hi
  clear hi
  go_enter Try.func17, Try.ntmps17
  go_wp2_with fail
  refine HC.out.mono ?_
  rintro e w1 ⟨G, rfl, _, _, _, hG, b1⟩
  have HG := hid hG
  have HB := hid b1
  clear hG b1
  go_upto_region 7 with fail
  go_loopw [6, 7] (fun l i wr => ∃ (j : Nat) (o : List Tok), j ≤ 1 ∧ i = .int .i64 j ∧ o.length = j ∧ OwnT wr w.heap.size l o ∧ wr.heap[G]? = some (.cells #[.string s, .map (some w.heap.size), .slice (some ⟨w.heap.size + 1, 0, none⟩) s.size s.size] 52 (0, 0)) ∧ Below w.heap.size w wr) (fun _ i _ => 1 - (intOf i).toNat)
  case atStart => exact ⟨0, [], by omega, rfl, rfl, World.ownsRow_nil _ _ _ _, HG.out, HB.out⟩
  case round =>
    obtain ⟨j, o, hj, rfl, ho, hown, hrG, hB⟩ := hrel
    have HO := hid hown
    have HR := hid hrG
    have HBW := hid hB
    clear hown hrG hB
    by_cases h0 : j = 0
    · subst h0
      have HOL := hid ho
      have BC := hid (best1 G s hs _ _ wr HR.out)
      go_wp2_with fail
      refine BC.out.mono ?_
      rintro e w2 ⟨rfl, b2⟩
      have HB2 := hid (HBW.out.trans (b2.mono HBW.out.size))
      have HO2 := hid (own_below HO.out b2)
      have HR2 := hid (row_b HR.out b2)
      have hz := HB2.out.size
      have HBT := byteT_lt s 0
      generalize byteT s 0 = u at *
      clear b2 ho
      go_wp2_with (at_builtin; refine wpList_append_own _ rfl _ _ 22 rfl w.heap.size 24 i0 (.agg #[.int .u8 0, .int .i64 0, .int .i64 0]) 3 24 und22 HI.out hz0 hz1 hz2 rfl (by decide) _ _ _ rfl ((HO2.out.alloc _).alloc _) _ 1 1 [.int .u8 (u : Nat), .int .i64 0, .int .i64 0] rfl rfl (World.news_of_block (heap_alloc2_new _ _ _)) (by simp [Value.oneCell']) (by have h9 := HOL.out; simp [maxLen, h9]) (by have h9 := HOL.out; omega) (by simp only [World.alloc, Array.size_push]; omega) ?_; intro v' w8 hown8 hgrow8 _; have R := hid (And.intro (ownT_next (s := ((u : Int), 0, 0)) (W := w2.alloc (.cells #[.int .u8 (u : Nat), .int .i64 0, .int .i64 0] 24)) (HO2.out.alloc _) (HB2.out.alloc hz _) (by simp; omega) hown8 hgrow8) (grown_keeps3 ((HO2.out.alloc _).alloc _) hgrow8 (row_b (row_b HR2.out ((Below.refl _ _).alloc (Nat.le_refl _) _)) ((Below.refl _ _).alloc (Nat.le_refl _) _)) (by decide))); clear hown8 hgrow8)
      try (go_wp2_with fail)
      obtain ⟨wo, rfl⟩ : ∃ wo : World, wo = wr := ⟨_, rfl⟩
      go_loopw [7, 41] (fun i k wr => ∃ K : Nat, K ≤ 1 ∧ i = .int .i64 K ∧ k = .int .i64 K ∧ OwnT wr w.heap.size v' (o ++ [((u : Int), 0, 0)]) ∧ wr.heap[G]? = some (.cells #[.string s, .map (some w.heap.size), .slice (some ⟨w.heap.size + 1, 0, none⟩) s.size s.size] 52 (0, 0)) ∧ Below w.heap.size w wr) (fun _ k _ => 1 - (intOf k).toNat)
      case atStart => exact ⟨0, by omega, rfl, rfl, R.out.1.1, R.out.2, R.out.1.2⟩
      case round =>
        obtain ⟨K, hK, rfl, rfl, hown, hrG, hB⟩ := hrel
        have HO3 := hid hown
        have HR3 := hid hrG
        have HB3 := hid hB
        clear hown hrG hB
        by_cases hk0 : K = 0
        · subst hk0
          have PC := hid (put1 G s hs _ _ wr HR3.out)
          go_wp2_with fail
          refine PC.out.mono ?_
          rintro e w9 ⟨⟨v, rfl⟩, b9⟩
          have HB4 := hid (HB3.out.trans (b9.mono HB3.out.size))
          have HO4 := hid (own_below HO3.out b9)
          have HR4 := hid (row_b HR3.out b9)
          clear b9
          go_wp2_with fail
          go_roundw
          case rel => exact ⟨1, by omega, by go_num, by go_num, HO4.out, HR4.out, HB4.out⟩
          case measure => simp [intOf]
        · obtain rfl : K = 1 := by omega
          go_wp2_with fail
          go_roundw
          case rel => exact ⟨1, _, by omega, rfl, by have h9 := HOL.out; simp [h9], HO3.out, HR3.out, HB3.out⟩
          case measure => simp [intOf]
    · obtain rfl : j = 1 := by omega
      obtain ⟨A, c, g, hv, _⟩ := OwnT.form HO.out
      rw [ho] at hv
      subst hv
      go_wp2_with fail
      go_ret
      exact ⟨⟨_, _, rfl⟩, HBW.out⟩
end Lz
end Go.Proofs.Ytlhgkemiakekoaa
