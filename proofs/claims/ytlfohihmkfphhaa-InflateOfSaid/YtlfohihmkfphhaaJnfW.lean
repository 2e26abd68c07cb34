/- INFLATE: the fixed lengths, of the document. -/
import Derived.Test.YtlfohihmkfphhaaJnfJ
namespace Go.Proofs.Ytlfohihmkfphhaa
set_option linter.unusedVariables false
open Go.RowKit
open Go.Proofs.Huf
attribute [local go_sem ↓] Go.wp_at_zero Go.wp_at_succ
namespace Inf
open Huff
/-- Lengths in memory, in a block of ints. -/
structure Lk (w : World) (A : Option Addr) (b off : Nat) (l : List Nat) : Prop where
  ls : Ls w A b off l
  blk : 0 < l.length → ∃ cs q, w.heap[b]? = some (.cells cs 3 q)
theorem Lk.of_own {w : World} {B : Nat} {v : Value} {l : List Nat} (h : OwnI w B v l) (h3 : l.length ≤ 300) (hs : Small l) : ∃ A b cap, v = .slice A l.length cap ∧ Lk w A b 0 l := by
  rcases h.2 with ⟨rfl, h0⟩ | ⟨g, cap, cur, rfl, hb, hg, hc, _⟩
  · exact ⟨none, 0, 0, by rw [h0], ⟨fun hp => absurd hp (by omega), ⟨fun hp => absurd hp (by omega), fun i hi => absurd hi (by omega)⟩, h3, hs⟩, fun hp => absurd hp (by omega)⟩
  · refine ⟨some ⟨g, 0, none⟩, g, cap, rfl, ⟨fun _ => rfl, ⟨fun _ => (Array.getElem?_eq_some_iff.1 hg).1, fun i hi => ?_⟩, h3, hs⟩, fun _ => ⟨cur, _, hg⟩⟩
    rw [Nat.zero_add, World.ownsRow.cellAt h i (by omega)]
    simp [symV, lx, fnL, hi]
theorem Lk.kp {w w' : World} {A : Option Addr} {b off C : Nat} {l : List Nat} {T : List Nat} (h : Lk w A b off l) (k : Kp T C w w') (hT : 3 ∉ T) : Lk w' A b off l := by
  by_cases hp : 0 < l.length
  · obtain ⟨cs, q, hb⟩ := h.blk hp
    have hb' := k.keep _ _ _ _ hb hT
    refine ⟨⟨h.ls.ad, ⟨fun _ => (Array.getElem?_eq_some_iff.1 hb').1, fun i hi => ?_⟩, h.ls.few, h.ls.small⟩, fun _ => ⟨cs, q, hb'⟩⟩
    have h1 := h.ls.row.at_ i hi
    rw [cell_of_row _ _ _ _ _ _ hb] at h1
    rw [cell_of_row _ _ _ _ _ _ hb']
    exact h1
  · exact ⟨⟨h.ls.ad, ⟨fun hp' => absurd hp' hp, fun i hi => absurd hi (by omega)⟩, h.ls.few, h.ls.small⟩, fun hp' => absurd hp' hp⟩
theorem Lk.grow {w w' : World} {A : Option Addr} {b off : Nat} {l : List Nat} (h : Lk w A b off l) (bb : Below w.heap.size w w') : Lk w' A b off l := h.kp (T := []) (C := 0) (Kp.of_below bb (Nat.zero_le _)) (by simp)
set_option maxRecDepth 100000 in
set_option maxHeartbeats 2000000 in
theorem refFixedW (w : World) : Calls Try.prog 44 #[] w fun e w' => (∃ A1 b1 c1 A2 b2 c2, e = .returned (.tuple #[.slice A1 fixA.length c1, .slice A2 fixB.length c2]) ∧ Lk w' A1 b1 0 fixA ∧ Lk w' A2 b2 0 fixB) ∧ Below w.heap.size w w' := by
  obtain ⟨i0, hi, hz0, hz1, hz2⟩ := info_parts infoI
  have HI := hid hi
  clear hi
  go_enter Try.func44, Try.ntmps44
  go_upto_region 3 with fail
  go_loopw [2, 4] (fun rv i wr => ∃ k : Nat, k ≤ 288 ∧ i = .int .i64 (k : Int) ∧ OwnI wr w.heap.size rv (fixP k) ∧ Below w.heap.size w wr) (fun _ i _ => 288 - (intOf i).toNat)
  case atStart => exact ⟨0, Nat.zero_le _, rfl, World.ownsRow_nil _ _ _ _, Below.refl _ _⟩
  case round =>
    obtain ⟨k, hk, rfl, hown, hB⟩ := hrel
    have HO := hid hown
    have HB := hid hB
    have hlen := fixP_len k
    obtain ⟨A, cap, g, hv, _⟩ := OwnI.form hown
    subst hv
    clear hown hB
    by_cases hlt : k < 288
    · have hlti : (k : Int) < 288 := by omega
      have HS := hid (fixP_succ k)
      generalize fixP k = l at *
      have HL1 := hid (show l.length + 1 ≤ maxLen by rw [hlen]; unfold maxLen; omega)
      have HL2 := hid (show (l.length + 1) * 8 ≤ 140737488355328 by rw [hlen]; omega)
      have HSZ := hid HB.out.size
      have HLN := hid hlen
      clear hlen
      by_cases hc : k < 144
      · have HF := hid (show l ++ [fl k] = l ++ [8] by rw [show fl k = 8 from by unfold fl; rw [if_pos hc]])
        have d1 : decide ((144 : Int) ≤ (k : Int)) = false := decide_eq_false (by omega)
        have d2 : decide ((256 : Int) ≤ (k : Int)) = false := decide_eq_false (by omega)
        have n1 : ¬ (144 : Int) ≤ (k : Int) := by omega
        have n2 : ¬ (256 : Int) ≤ (k : Int) := by omega
        clear hc 
        go_wp2_with (at_builtin; (refine wpList_append_lies _ (by rfl) _ _ _ (by rfl) w.heap.size 3 i0 (.int .i64 0) 1 8 und22' HI.out hz0 hz1 hz2 (by rfl) (by decide) (.slice A l.length cap) l.length _ (by rfl) (HO.out.alloc _) ⟨wr.heap.size, 0, none⟩ 1 1 [.int .i64 8] (by rfl) (by rfl) (World.news_of_block (heap_alloc_new _ _)) (by simp [Value.oneCell']) (by decide) HL1.out HL2.out (by have := HSZ.out; simp; omega) (wr.heap.size + 1) (by simp) ?_); intro g1 cap1 w5 hown1 hgrow1 hat1 hlt1; have R := hid (OwnI.snoc (x := 8) HO.out HB.out HSZ.out hown1 hgrow1); clear hown1 hgrow1 hat1 hlt1)
        try (go_wp2_with fail)
        go_roundw
        case rel => exact ⟨k + 1, by omega, by go_num, by rw [HS.out, HF.out]; exact R.out.1, R.out.2⟩
        case measure => simp [intOf]; omega
      · by_cases hc2 : k < 256
        · have HF := hid (show l ++ [fl k] = l ++ [9] by rw [show fl k = 9 from by unfold fl; rw [if_neg hc, if_pos (by omega)]])
          have d1 : (144 : Int) ≤ (k : Int) := by omega
          have d3 : (k : Int) < 256 := by omega
          have d2 : decide ((256 : Int) ≤ (k : Int)) = false := decide_eq_false (by omega)
          have n2 : ¬ (256 : Int) ≤ (k : Int) := by omega
          clear hc hc2
          go_wp2_with (at_builtin; (refine wpList_append_lies _ (by rfl) _ _ _ (by rfl) w.heap.size 3 i0 (.int .i64 0) 1 8 und22' HI.out hz0 hz1 hz2 (by rfl) (by decide) (.slice A l.length cap) l.length _ (by rfl) (HO.out.alloc _) ⟨wr.heap.size, 0, none⟩ 1 1 [.int .i64 9] (by rfl) (by rfl) (World.news_of_block (heap_alloc_new _ _)) (by simp [Value.oneCell']) (by decide) HL1.out HL2.out (by have := HSZ.out; simp; omega) (wr.heap.size + 1) (by simp) ?_); intro g1 cap1 w5 hown1 hgrow1 hat1 hlt1; have R := hid (OwnI.snoc (x := 9) HO.out HB.out HSZ.out hown1 hgrow1); clear hown1 hgrow1 hat1 hlt1)
          try (go_wp2_with fail)
          go_roundw
          case rel => exact ⟨k + 1, by omega, by go_num, by rw [HS.out, HF.out]; exact R.out.1, R.out.2⟩
          case measure => simp [intOf]; omega
        · by_cases hc3 : k < 280
          · have HF := hid (show l ++ [fl k] = l ++ [7] by rw [show fl k = 7 from by unfold fl; rw [if_neg hc, if_neg (by omega), if_pos (by omega)]])
            have d1 : (144 : Int) ≤ (k : Int) := by omega
            have d3 : decide ((k : Int) < 256) = false := decide_eq_false (by omega)
            have d2 : (256 : Int) ≤ (k : Int) := by omega
            have d4 : (k : Int) < 280 := by omega
            have n3 : ¬ (k : Int) < 256 := by omega
            clear hc hc2 hc3
            go_wp2_with (at_builtin; (refine wpList_append_lies _ (by rfl) _ _ _ (by rfl) w.heap.size 3 i0 (.int .i64 0) 1 8 und22' HI.out hz0 hz1 hz2 (by rfl) (by decide) (.slice A l.length cap) l.length _ (by rfl) (HO.out.alloc _) ⟨wr.heap.size, 0, none⟩ 1 1 [.int .i64 7] (by rfl) (by rfl) (World.news_of_block (heap_alloc_new _ _)) (by simp [Value.oneCell']) (by decide) HL1.out HL2.out (by have := HSZ.out; simp; omega) (wr.heap.size + 1) (by simp) ?_); intro g1 cap1 w5 hown1 hgrow1 hat1 hlt1; have R := hid (OwnI.snoc (x := 7) HO.out HB.out HSZ.out hown1 hgrow1); clear hown1 hgrow1 hat1 hlt1)
            try (go_wp2_with fail)
            go_roundw
            case rel => exact ⟨k + 1, by omega, by go_num, by rw [HS.out, HF.out]; exact R.out.1, R.out.2⟩
            case measure => simp [intOf]; omega
          · have HF := hid (show l ++ [fl k] = l ++ [8] by rw [show fl k = 8 from by unfold fl; rw [if_neg hc, if_neg (by omega), if_neg (by omega)]])
            have d1 : (144 : Int) ≤ (k : Int) := by omega
            have d3 : decide ((k : Int) < 256) = false := decide_eq_false (by omega)
            have d2 : (256 : Int) ≤ (k : Int) := by omega
            have d4 : decide ((k : Int) < 280) = false := decide_eq_false (by omega)
            have n3 : ¬ (k : Int) < 256 := by omega
            have n4 : ¬ (k : Int) < 280 := by omega
            clear hc hc2 hc3
            go_wp2_with (at_builtin; (refine wpList_append_lies _ (by rfl) _ _ _ (by rfl) w.heap.size 3 i0 (.int .i64 0) 1 8 und22' HI.out hz0 hz1 hz2 (by rfl) (by decide) (.slice A l.length cap) l.length _ (by rfl) (HO.out.alloc _) ⟨wr.heap.size, 0, none⟩ 1 1 [.int .i64 8] (by rfl) (by rfl) (World.news_of_block (heap_alloc_new _ _)) (by simp [Value.oneCell']) (by decide) HL1.out HL2.out (by have := HSZ.out; simp; omega) (wr.heap.size + 1) (by simp) ?_); intro g1 cap1 w5 hown1 hgrow1 hat1 hlt1; have R := hid (OwnI.snoc (x := 8) HO.out HB.out HSZ.out hown1 hgrow1); clear hown1 hgrow1 hat1 hlt1)
            try (go_wp2_with fail)
            go_roundw
            case rel => exact ⟨k + 1, by omega, by go_num, by rw [HS.out, HF.out]; exact R.out.1, R.out.2⟩
            case measure => simp [intOf]; omega
    · have hke : k = 288 := by omega
      have HOA := hid (show OwnI wr w.heap.size (.slice A (fixP k).length cap) fixA from by have h := HO.out; rw [hke, fixP_all] at h ⊢; exact h)
      have gk : ¬ (k : Int) < 288 := by omega
      clear hlen hke hlt hk HO
      have HSZ := hid HB.out.size
      go_upto_region 12 with fail
      clear gk
      obtain ⟨wq, rfl⟩ : ∃ wq : World, wq = wr := ⟨_, rfl⟩
      go_loopw [3, 6] (fun rv i wr => ∃ k : Nat, k ≤ 32 ∧ i = .int .i64 (k : Int) ∧ OwnI wr wq.heap.size rv (List.replicate k 5) ∧ Below wq.heap.size wq wr) (fun _ i _ => 32 - (intOf i).toNat)
      case atStart => exact ⟨0, Nat.zero_le _, rfl, World.ownsRow_nil _ _ _ _, Below.refl _ _⟩
      case round =>
        obtain ⟨k, hk, rfl, hown, hB2⟩ := hrel
        have HO2 := hid hown
        have HB2 := hid hB2
        have hlen2 : (List.replicate k 5).length = k := by simp
        obtain ⟨A2, cap2, g2, hv2, _⟩ := OwnI.form hown
        subst hv2
        clear hown hB2
        by_cases hlt : k < 32
        · have hlti : (k : Int) < 32 := by omega
          have HS := hid (show List.replicate (k + 1) 5 = List.replicate k 5 ++ [5] from List.replicate_succ')
          generalize List.replicate k 5 = l at *
          have HL1 := hid (show l.length + 1 ≤ maxLen by rw [hlen2]; unfold maxLen; omega)
          have HL2 := hid (show (l.length + 1) * 8 ≤ 140737488355328 by rw [hlen2]; omega)
          have HSZ2 := hid HB2.out.size
          clear hlen2
          go_wp2_with (at_builtin; (refine wpList_append_lies _ (by rfl) _ _ _ (by rfl) wq.heap.size 3 i0 (.int .i64 0) 1 8 und22' HI.out hz0 hz1 hz2 (by rfl) (by decide) (.slice A2 l.length cap2) l.length _ (by rfl) (HO2.out.alloc _) ⟨wr.heap.size, 0, none⟩ 1 1 [.int .i64 5] (by rfl) (by rfl) (World.news_of_block (heap_alloc_new _ _)) (by simp [Value.oneCell']) (by decide) HL1.out HL2.out (by have := HSZ2.out; simp; omega) (wr.heap.size + 1) (by simp) ?_); intro g1 cap1 w5 hown1 hgrow1 hat1 hlt1; have R := hid (OwnI.snoc (x := 5) HO2.out HB2.out HSZ2.out hown1 hgrow1); clear hown1 hgrow1 hat1 hlt1)
          try (go_wp2_with fail)
          go_roundw
          case rel => exact ⟨k + 1, by omega, by go_num, by rw [HS.out]; exact R.out.1, R.out.2⟩
          case measure => simp [intOf]; omega
        · obtain rfl : k = 32 := by omega
          have HFA := hid (HOA.out.grow HB2.out)
          have HFB := hid (show OwnI wr wq.heap.size (.slice A2 (List.replicate 32 5).length cap2) fixB from HO2.out)
          clear hlen2
          go_wp2_with fail
          go_ret2
          obtain ⟨A1', b1', c1', e1, hl1⟩ := Lk.of_own HFA.out fix_few.1 fixA_small
          obtain ⟨A2', b2', c2', e2, hl2⟩ := Lk.of_own HFB.out fix_few.2 fixB_small
          exact ⟨⟨A1', b1', c1', A2', b2', c2', pairE e1 e2, hl1, hl2⟩, HB.out.trans (HB2.out.mono HSZ.out)⟩
end Inf
end Go.Proofs.Ytlfohihmkfphhaa
