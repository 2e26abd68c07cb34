/- INFLATE: the fixed lengths; all blocks, of the program. -/
import Derived.Test.YtlfohihmkfphhaaJnfI
import Derived.Test.YtlfohihmkfphhaaJnfB
namespace Go.Proofs.Ytlfohihmkfphhaa
set_option linter.unusedVariables false
open Go.RowKit
open Go.Proofs.Huf
attribute [local go_sem ↓] Go.wp_at_zero Go.wp_at_succ
namespace Inf
open Huff
def fl (k : Nat) : Nat := if k < 144 then 8 else if k ≤ 255 then 9 else if k ≤ 279 then 7 else 8
def fixP (n : Nat) : List Nat := (List.range n).map fl
theorem fixP_len (n : Nat) : (fixP n).length = n := by simp [fixP]
theorem fixP_succ (n : Nat) : fixP (n + 1) = fixP n ++ [fl n] := by simp [fixP, List.range_succ]
theorem fixP_all : fixP 288 = fixA := by decide +kernel
theorem fix_few : fixA.length ≤ 300 ∧ fixB.length ≤ 300 := by decide +kernel
theorem fixA_len : fixA.length = 288 := by decide +kernel
theorem fixB_len : fixB.length = 32 := by decide
theorem fixA_small : Small fixA := by
  have key : ∀ i : Fin 288, fnL fixA i.1 ≤ 15 := by decide +kernel
  intro i hi
  exact key ⟨i, by rw [fixA_len] at hi; exact hi⟩
theorem fixB_small : Small fixB := by
  have key : ∀ i : Fin 32, fnL fixB i.1 ≤ 15 := by decide +kernel
  intro i hi
  exact key ⟨i, by rw [fixB_len] at hi; exact hi⟩
set_option maxRecDepth 100000 in
theorem fixedLen (k : Nat) (w : World) : Calls Try.prog 37 #[.int .i64 (k : Int)] w fun e w' => e = .returned (.int .i64 (fl k : Int)) ∧ w = w' := by
  by_cases h1 : k < 144
  · have HF := hid (show fl k = 8 by unfold fl; rw [if_pos h1])
    have g1 : (k : Int) < 144 := by omega
    clear h1
    go_enter Try.func37, Try.ntmps37
    go_wp2_with fail
    go_ret
    exact ⟨ret_int (by rw [HF.out]; rfl), rfl⟩
  · have g1 : ¬ (k : Int) < 144 := by omega
    by_cases h2 : k ≤ 255
    · have HF := hid (show fl k = 9 by unfold fl; rw [if_neg h1, if_pos h2])
      have g2 : (k : Int) ≤ 255 := by omega
      have g2' : ¬ (255 : Int) < (k : Int) := by omega
      clear h1 h2
      go_enter Try.func37, Try.ntmps37
      go_wp2_with fail
      go_ret
      exact ⟨ret_int (by rw [HF.out]; rfl), rfl⟩
    · have g2 : ¬ (k : Int) ≤ 255 := by omega
      have g2' : (255 : Int) < (k : Int) := by omega
      by_cases h3 : k ≤ 279
      · have HF := hid (show fl k = 7 by unfold fl; rw [if_neg h1, if_neg h2, if_pos h3])
        have g3 : (k : Int) ≤ 279 := by omega
        have g3' : ¬ (279 : Int) < (k : Int) := by omega
        clear h1 h2 h3
        go_enter Try.func37, Try.ntmps37
        go_wp2_with fail
        go_ret
        exact ⟨ret_int (by rw [HF.out]; rfl), rfl⟩
      · have HF := hid (show fl k = 8 by unfold fl; rw [if_neg h1, if_neg h2, if_neg h3])
        have g3 : ¬ (k : Int) ≤ 279 := by omega
        have g3' : (279 : Int) < (k : Int) := by omega
        clear h1 h2 h3
        go_enter Try.func37, Try.ntmps37
        go_wp2_with fail
        go_ret
        exact ⟨ret_int (by rw [HF.out]; rfl), rfl⟩
theorem pairE {x1 x2 y1 y2 : Value} (h1 : x1 = y1) (h2 : x2 = y2) : Ending.returned (.tuple #[x1, x2]) = .returned (.tuple #[y1, y2]) := by rw [h1, h2]
theorem Ls.of_own {w : World} {B : Nat} {v : Value} {l : List Nat} (h : OwnI w B v l) (h3 : l.length ≤ 300) (hs : Small l) : ∃ A b cap, v = .slice A l.length cap ∧ Ls w A b 0 l := by
  obtain ⟨A, cap, g, rfl, hc⟩ := OwnI.form h
  refine ⟨A, g, cap, rfl, fun hp => (hc 0 hp).1, ⟨fun hp => (hc 0 hp).2.1, fun i hi => ?_⟩, h3, hs⟩
  rw [Nat.zero_add]
  exact (hc i hi).2.2
theorem OwnI.snoc {w W w1 : World} {C : Nat} {v v' : Value} {l : List Nat} {x : Nat} {ob : Obj} (ho : OwnI W C v l) (hb : Below C w W) (hC : C ≤ W.heap.size) (h : w1.ownsRow C 3 1 v' (l.length + 1) (symV l ++ [.int .i64 (x : Int)])) (hg : (W.alloc ob).grownBy w1 v.ownBlock) :
    OwnI w1 C v' (l ++ [x]) ∧ Below C w w1 := by
  refine ⟨?_, (hb.alloc hC ob).grown hg (by simp; omega) (fun k hk => (ho.lt k hk).1)⟩
  unfold OwnI
  rw [symV_append, List.length_append]
  exact h
set_option maxRecDepth 100000 in
set_option maxHeartbeats 2000000 in
theorem fixedW (w : World) : Calls Try.prog 17 #[] w fun e w' => (∃ A1 b1 c1 A2 b2 c2, e = .returned (.tuple #[.slice A1 fixA.length c1, .slice A2 fixB.length c2]) ∧ Ls w' A1 b1 0 fixA ∧ Ls w' A2 b2 0 fixB) ∧ Below w.heap.size w w' := by
  obtain ⟨i0, hi, hz0, hz1, hz2⟩ := info_parts infoI
  have HI := hid hi
  clear hi
  go_enter Try.func17, Try.ntmps17
  go_upto_region 3 with fail
  go_loopw [2, 5] (fun rv i wr => ∃ k : Nat, k ≤ 288 ∧ i = .int .i64 (k : Int) ∧ OwnI wr w.heap.size rv (fixP k) ∧ Below w.heap.size w wr) (fun _ i _ => 288 - (intOf i).toNat)
  case atStart => exact ⟨0, Nat.zero_le _, rfl, World.ownsRow_nil _ _ _ _, Below.refl _ _⟩
  case round =>
    obtain ⟨k, hk, rfl, hown, hB⟩ := hrel
    have HO := hid hown
    have HB := hid hB
    have hlen := fixP_len k
    obtain ⟨A, cap, g, hv, _⟩ := OwnI.form hown
    subst hv
    clear hown hB
    by_cases hlt : k < 288
    · have hlti : (k : Int) < 288 := by omega
      have HS := hid (fixP_succ k)
      have HF := hid (fixedLen k)
      generalize fixP k = l at *
      have HL1 := hid (show l.length + 1 ≤ maxLen by rw [hlen]; unfold maxLen; omega)
      have HL2 := hid (show (l.length + 1) * 8 ≤ 140737488355328 by rw [hlen]; omega)
      have HSZ := hid HB.out.size
      have HLN := hid hlen
      clear hlen
      go_wp2_with (first
        | (go_at_call 37; refine (HF.out _).mono ?_; rintro e w3 ⟨rfl, rfl⟩)
        | (at_builtin; (refine wpList_append_lies _ (by rfl) _ _ _ (by rfl) w.heap.size 3 i0 (.int .i64 0) 1 8 und22' HI.out hz0 hz1 hz2 (by rfl) (by decide) (.slice A l.length cap) l.length _ (by rfl) (HO.out.alloc _) ⟨wr.heap.size, 0, none⟩ 1 1 [.int .i64 (fl k : Int)] (by rfl) (by rfl) (World.news_of_block (heap_alloc_new _ _)) (by simp [Value.oneCell']) (by decide) HL1.out HL2.out (by have := HSZ.out; simp; omega) (wr.heap.size + 1) (by simp) ?_); intro g1 cap1 w5 hown1 hgrow1 hat1 hlt1; have R := hid (OwnI.snoc HO.out HB.out HSZ.out hown1 hgrow1); clear hown1 hgrow1 hat1 hlt1))
      try (go_wp2_with fail)
      go_roundw
      case rel => exact ⟨k + 1, by omega, by go_num, by rw [HS.out]; exact R.out.1, R.out.2⟩
      case measure => simp [intOf]; omega
    · have hke : k = 288 := by omega
      have HOA := hid (show OwnI wr w.heap.size (.slice A (fixP k).length cap) fixA from by have h := HO.out; rw [hke, fixP_all] at h ⊢; exact h)
      have gk : ¬ (k : Int) < 288 := by omega
      clear hlen hke hlt hk HO
      have HSZ := hid HB.out.size
      go_upto_region 8 with fail
      clear gk
      obtain ⟨wq, rfl⟩ : ∃ wq : World, wq = wr := ⟨_, rfl⟩
      go_loopw [3, 14] (fun rv i wr => ∃ k : Nat, k ≤ 32 ∧ i = .int .i64 (k : Int) ∧ OwnI wr wq.heap.size rv (List.replicate k 5) ∧ Below wq.heap.size wq wr) (fun _ i _ => 32 - (intOf i).toNat)
      case atStart => exact ⟨0, Nat.zero_le _, rfl, World.ownsRow_nil _ _ _ _, Below.refl _ _⟩
      case round =>
        obtain ⟨k, hk, rfl, hown, hB2⟩ := hrel
        have HO2 := hid hown
        have HB2 := hid hB2
        have hlen2 : (List.replicate k 5).length = k := by simp
        obtain ⟨A2, cap2, g2, hv2, _⟩ := OwnI.form hown
        subst hv2
        clear hown hB2
        by_cases hlt : k < 32
        · have hlti : (k : Int) < 32 := by omega
          have HS := hid (show List.replicate (k + 1) 5 = List.replicate k 5 ++ [5] from List.replicate_succ')
          generalize List.replicate k 5 = l at *
          have HL1 := hid (show l.length + 1 ≤ maxLen by rw [hlen2]; unfold maxLen; omega)
          have HL2 := hid (show (l.length + 1) * 8 ≤ 140737488355328 by rw [hlen2]; omega)
          have HSZ2 := hid HB2.out.size
          clear hlen2
          go_wp2_with (at_builtin; (refine wpList_append_lies _ (by rfl) _ _ _ (by rfl) wq.heap.size 3 i0 (.int .i64 0) 1 8 und22' HI.out hz0 hz1 hz2 (by rfl) (by decide) (.slice A2 l.length cap2) l.length _ (by rfl) (HO2.out.alloc _) ⟨wr.heap.size, 0, none⟩ 1 1 [.int .i64 5] (by rfl) (by rfl) (World.news_of_block (heap_alloc_new _ _)) (by simp [Value.oneCell']) (by decide) HL1.out HL2.out (by have := HSZ2.out; simp; omega) (wr.heap.size + 1) (by simp) ?_); intro g1 cap1 w5 hown1 hgrow1 hat1 hlt1; have R := hid (OwnI.snoc (x := 5) HO2.out HB2.out HSZ2.out hown1 hgrow1); clear hown1 hgrow1 hat1 hlt1)
          try (go_wp2_with fail)
          go_roundw
          case rel => exact ⟨k + 1, by omega, by go_num, by rw [HS.out]; exact R.out.1, R.out.2⟩
          case measure => simp [intOf]; omega
        · obtain rfl : k = 32 := by omega
          have HFA := hid (HOA.out.grow HB2.out)
          have HFB := hid (show OwnI wr wq.heap.size (.slice A2 (List.replicate 32 5).length cap2) fixB from HO2.out)
          clear hlen2
          go_wp2_with fail
          go_ret2
          obtain ⟨A1', b1', c1', e1, hl1⟩ := Ls.of_own HFA.out fix_few.1 fixA_small
          obtain ⟨A2', b2', c2', e2, hl2⟩ := Ls.of_own HFB.out fix_few.2 fixB_small
          exact ⟨⟨A1', b1', c1', A2', b2', c2', pairE e1 e2, hl1, hl2⟩, HB.out.trans (HB2.out.mono HSZ.out)⟩
end Inf
end Go.Proofs.Ytlfohihmkfphhaa
