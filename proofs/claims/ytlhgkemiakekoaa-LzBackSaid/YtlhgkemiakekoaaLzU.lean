/- LZ: the best token of a place. -/
import Derived.Test.YtlhgkemiakekoaaLzT
namespace Go.Proofs.Ytlhgkemiakekoaa
set_option linter.unusedVariables false
open Go.RowKit Go.Shelf
attribute [local go_sem] Oper.semAt_some
namespace Lz
theorem keeps_below {W W' : World} (hb : Below W.heap.size W W') : KeepsOthers W W' := ⟨hb.size, fun k o hk _ => (hb.block k (Array.getElem?_eq_some_iff.1 hk).1).trans hk⟩
theorem bs_new {w : World} {s : ByteArray} {G B R p g8 g9 : Nat} {T : Int} {W : World} (hch : Ch w s G B R p) (hb : Below ((((w.alloc (.cells #[.pointer (some ⟨G, 0, none⟩)] 43)).alloc (.cells #[.int .i64 p] 3)).alloc (.cells #[.int .i64 T] 3)).alloc (.cells #[.int .u8 0, .int .i64 0, .int .i64 0] 24)).heap.size
      ((((w.alloc (.cells #[.pointer (some ⟨G, 0, none⟩)] 43)).alloc (.cells #[.int .i64 p] 3)).alloc (.cells #[.int .i64 T] 3)).alloc (.cells #[.int .u8 0, .int .i64 0, .int .i64 0] 24)) W)
    (h8 : W.heap[g8]? = some (.cells #[.int .u8 (byteT s p : Nat), .int .i64 0, .int .i64 0] 24 (0, 0))) (h9 : W.heap[g9]? = some (.cells #[.int .i64 1] 3 (0, 0))) :
    Bs w.heap.size W s G B R p g8 g9 T (byteT s p : Nat) 0 0 1 := by
  have n0 := heap_alloc_new w (.cells #[.pointer (some ⟨G, 0, none⟩)] 43)
  have n1 := heap_alloc_new (w.alloc (.cells #[.pointer (some ⟨G, 0, none⟩)] 43)) (.cells #[.int .i64 p] 3)
  have n2 := heap_alloc_new ((w.alloc (.cells #[.pointer (some ⟨G, 0, none⟩)] 43)).alloc (.cells #[.int .i64 p] 3)) (.cells #[.int .i64 T] 3)
  have n3 := heap_alloc_new (((w.alloc (.cells #[.pointer (some ⟨G, 0, none⟩)] 43)).alloc (.cells #[.int .i64 p] 3)).alloc (.cells #[.int .i64 T] 3)) (.cells #[.int .u8 0, .int .i64 0, .int .i64 0] 24)
  simp only [World.size_alloc] at n0 n1 n2 n3
  have st : ∀ (V : World) (o : Obj), Below V.heap.size V (V.alloc o) := fun V o => (Below.refl _ _).alloc (Nat.le_refl _) o
  exact ⟨((((hch.step (st _ _)).step (st _ _)).step (st _ _)).step (st _ _)).step hb, row_b (row_b (row_b (row_b n0 (st _ _)) (st _ _)) (st _ _)) hb, row_b (row_b (row_b n1 (st _ _)) (st _ _)) hb, row_b (row_b n2 (st _ _)) hb, row_b n3 hb, h8, h9⟩
theorem iter_stops (n : Nat) (hn : 1 ≤ n) (G B R p B2 B3 : Nat) (s : ByteArray) (hs : s.size ≤ 1000000) (hp : p < s.size) (w : World) (hS : St w s G B R p B2 B3) :
    SeqStopsK Fence.wide n Try.prog 26 #[.pointer (some ⟨B2, 0, none⟩), .pointer (some ⟨B3, 0, none⟩)] (fun x : Bk s p => #[Value.int .i64 (x.1 : Int)]) (fun W W' => St W s G B R p B2 B3 → St W' s G B R p B2 B3) (fun ys => Rep s p → ys ≠ []) (fun _ => True) (p + 1) w := fun l J Jx W hW hJa hJx hY h0 =>
  iter n hn l G B R p B2 B3 s hs hp J Jx W (fun W' hb => hJa [] W W' none h0 (grown_of_below hb) (fun r e => by cases e)) (hS.step hW) hY

set_option maxRecDepth 100000 in
set_option maxHeartbeats 8000000 in
theorem best (s : ByteArray) (G B R p : Nat) (T : Int) (w : World) (hs : s.size ≤ 70000) (hp : p < s.size) (hT0 : 1 ≤ T) (hT1 : T ≤ 1000) (hch : Ch w s G B R p) :
    Calls Try.prog 21 #[.pointer (some ⟨G, 0, none⟩), .int .i64 p, .int .i64 T] w fun e w' => (∃ x y z L : Int, e = .returned (.tuple #[tokV x y z, .int .i64 L]) ∧ Good s p x y z L ∧ (Rep s p → 3 ≤ L)) ∧ Below w.heap.size w w' := by
  refine (callsIn_wide (n := 8)).1 ?_
  refine callsIn_of_wp_marks Try.func21 rfl trivial ?_ rfl
  simp only [Try.ntmps21, List.size_toArray, List.length_cons, List.length_nil, Nat.reduceAdd, Nat.reduceSub, Array.replicate_succ, Array.replicate_zero, List.push_toArray, List.append_toArray, List.nil_append, List.cons_append]
  have HCH := hid hch
  obtain ⟨lG, lB, lR⟩ := hch.lt
  have HBT := hid (byteT_eq s p hp)
  have hpi : (p : Int) < (s.size : Int) := by omega
  have HB := hid (show Below w.heap.size w ((((w.alloc (.cells #[.pointer (some ⟨G, 0, none⟩)] 43)).alloc (.cells #[.int .i64 p] 3)).alloc (.cells #[.int .i64 T] 3)).alloc (.cells #[.int .u8 0, .int .i64 0, .int .i64 0] 24)) from
    ((((Below.refl _ w).alloc (Nat.le_refl _) _).alloc (by simp) _).alloc (by simp; omega) _).alloc (by simp; omega) _)
  have HZ := hid (show ((((w.alloc (.cells #[.pointer (some ⟨G, 0, none⟩)] 43)).alloc (.cells #[.int .i64 p] 3)).alloc (.cells #[.int .i64 T] 3)).alloc (.cells #[.int .u8 0, .int .i64 0, .int .i64 0] 24)).heap.size = w.heap.size + 4 by simp)
  have HN := hid (fun W g8 g9 hb h8 h9 => bs_new (w := w) (W := W) (g8 := g8) (g9 := g9) (T := T) hch hb h8 h9)
  have n0 := heap_alloc_new w (.cells #[.pointer (some ⟨G, 0, none⟩)] 43)
  have n1 := heap_alloc_new (w.alloc (.cells #[.pointer (some ⟨G, 0, none⟩)] 43)) (.cells #[.int .i64 p] 3)
  simp only [World.size_alloc] at n0 n1
  have st : ∀ (V : World) (o : Obj), Below V.heap.size V (V.alloc o) := fun V o => (Below.refl _ _).alloc (Nat.le_refl _) o
  have D3 := hid (cell1 (row_b (row_b (row_b n0 (st _ (.cells #[.int .i64 p] 3))) (st _ (.cells #[.int .i64 T] 3))) (st _ (.cells #[.int .u8 0, .int .i64 0, .int .i64 0] 24))))
  have D4 := hid (cell1 (row_b (row_b n1 (st _ (.cells #[.int .i64 T] 3))) (st _ (.cells #[.int .u8 0, .int .i64 0, .int .i64 0] 24))))
  have DG := hid (cell30 (row_b (row_b (row_b (row_b hch.rG (st _ (.cells #[.pointer (some ⟨G, 0, none⟩)] 43))) (st _ (.cells #[.int .i64 p] 3))) (st _ (.cells #[.int .i64 T] 3))) (st _ (.cells #[.int .u8 0, .int .i64 0, .int .i64 0] 24))))
  clear n0 n1 st hch
  gi_upto_region 1 with fail
  generalize (((w.alloc (.cells #[.pointer (some ⟨G, 0, none⟩)] 43)).alloc (.cells #[.int .i64 p] 3)).alloc (.cells #[.int .i64 T] 3)).alloc (.cells #[.int .u8 0, .int .i64 0, .int .i64 0] 24) = W0 at HB HZ HN D3 D4 DG ⊢
  gi_cut [8, 9] from 47 (fun u v wx => ∃ g8 g9 : Nat, u = .pointer (some ⟨g8, 0, none⟩) ∧ v = .pointer (some ⟨g9, 0, none⟩) ∧ Apart w.heap.size G B R g8 g9 ∧ g8 < wx.heap.size ∧ g9 < wx.heap.size ∧ Bs w.heap.size wx s G B R p g8 g9 T (byteT s p : Nat) 0 0 1 ∧ Below w.heap.size w wx)
  case first =>
    have d3 := D3.out
    have d4 := D4.out
    have dG := DG.out
    have hbt := HBT.out
    have hZ := HZ.out
    have hGz : G < w.heap.size + 4 := by omega
    gi_region
    all_goals gi_wp2
    all_goals gi_meet
    · have h1 := heap_alloc2_old W0 (.cells #[.int .u8 (byteT s p : Nat), .int .i64 0, .int .i64 0] 24) (.cells #[.int .i64 1] 3)
      have h2 := heap_alloc2_new W0 (.cells #[.int .u8 (byteT s p : Nat), .int .i64 0, .int .i64 0] 24) (.cells #[.int .i64 1] 3)
      rw [HZ.out] at h1 h2
      have hb : Below W0.heap.size W0 ((W0.alloc (.cells #[.int .u8 (byteT s p : Nat), .int .i64 0, .int .i64 0] 24)).alloc (.cells #[.int .i64 1] 3)).drew := (((Below.refl _ _).alloc (Nat.le_refl _) _).alloc (by simp) _).drew
      exact ⟨_, _, rfl, rfl, ⟨lG, lB, lR, by omega, by omega, by omega⟩, (Array.getElem?_eq_some_iff.1 h1).1, (Array.getElem?_eq_some_iff.1 h2).1, HN.out _ _ _ hb h1 h2, HB.out.trans (hb.mono (by omega))⟩
    · have h1 := heap_alloc2_old W0 (.cells #[.int .i64 1] 3) (.cells #[.int .u8 (byteT s p : Nat), .int .i64 0, .int .i64 0] 24)
      have h2 := heap_alloc2_new W0 (.cells #[.int .i64 1] 3) (.cells #[.int .u8 (byteT s p : Nat), .int .i64 0, .int .i64 0] 24)
      rw [HZ.out] at h1 h2
      have hb : Below W0.heap.size W0 ((W0.alloc (.cells #[.int .i64 1] 3)).alloc (.cells #[.int .u8 (byteT s p : Nat), .int .i64 0, .int .i64 0] 24)).drew := (((Below.refl _ _).alloc (Nat.le_refl _) _).alloc (by simp) _).drew
      exact ⟨_, _, rfl, rfl, ⟨lG, lB, lR, by omega, by omega, by omega⟩, (Array.getElem?_eq_some_iff.1 h2).1, (Array.getElem?_eq_some_iff.1 h1).1, HN.out _ _ _ hb h2 h1, HB.out.trans (hb.mono (by omega))⟩
  case rest =>
    obtain ⟨g8, g9, rfl, rfl, hap, l8, l9, hbs, hbw⟩ := hcut
    obtain ⟨wa, rfl⟩ : ∃ wa : World, wa = wc := ⟨_, rfl⟩
    have HAP := hid hap
    have HBS := hid hbs
    have HBW := hid hbw
    have d3 := cell1 hbs.r3
    have d4 := cell1 hbs.r4
    clear hap hbs hbw HN D3 D4 DG HZ HB HBT
    gi_wp2
    refine ⟨trivial, (callsIn_wide.2 (backs_ G p wa)).mono ?_⟩
    rintro e w1 ⟨rfl, rfl⟩
    gi_wp2
    have ha : Below wa.heap.size wa ((wa.alloc (.cells #[.pointer (some ⟨G, 0, none⟩)] 43)).alloc (.cells #[.int .i64 p] 3)) := ((Below.refl _ _).alloc (Nat.le_refl _) _).alloc (by simp) _
    have HBS2 := hid (HBS.out.step ha)
    have HBW2 := hid (HBW.out.trans (ha.mono HBW.out.size))
    have e2 := heap_alloc2_old wa (.cells #[.pointer (some ⟨G, 0, none⟩)] 43) (.cells #[.int .i64 p] 3)
    have e3 := heap_alloc2_new wa (.cells #[.pointer (some ⟨G, 0, none⟩)] 43) (.cells #[.int .i64 p] 3)
    have HST : Hid (St ((wa.alloc (.cells #[.pointer (some ⟨G, 0, none⟩)] 43)).alloc (.cells #[.int .i64 p] 3)) s G B R p wa.heap.size (wa.heap.size + 1)) := hid ⟨HBS2.out.ch, e2, e3⟩
    have HZ2 := hid (show ((wa.alloc (.cells #[.pointer (some ⟨G, 0, none⟩)] 43)).alloc (.cells #[.int .i64 p] 3)).heap.size = wa.heap.size + 2 by simp)
    have hwz := HBW.out.size
    clear e2 e3 ha d3 d4
    generalize (wa.alloc (.cells #[.pointer (some ⟨G, 0, none⟩)] 43)).alloc (.cells #[.int .i64 p] 3) = W1 at HBS2 HBW2 HST HZ2 ⊢
    refine wpIn_rangeFunc_ownF rfl (by omega) (gf := 26) (lb := #[.pointer (some ⟨wa.heap.size, 0, none⟩), .pointer (some ⟨wa.heap.size + 1, 0, none⟩)]) rfl trivial (enters_of Try.func26 (by kernel_rfl) rfl)
      (iter_stops (8 - 1) (by omega) G B R p wa.heap.size (wa.heap.size + 1) s (by omega) hp W1 HST.out) (fun h k => fun x => k (h x))
      (fun W l o o' hl ho hc _ hst => hst.kept (grownBy_putObj' W l o') (fun r e => by cases e; exact ⟨by have h9 := HZ2.out; have h8 := HAP.out.hB; omega, o, ho, hc⟩)) (Below.refl _ _) (fun _ => rfl)
      (fun pre W => (∃ T x y z L : Int, Bs w.heap.size W s G B R p g8 g9 T x y z L ∧ Good s p x y z L ∧ 1 ≤ T ∧ T ≤ 1000 ∧ (pre ≠ [] → 3 ≤ L)) ∧ Below w.heap.size w W)
      (fun c pre W => (c = .exit 0 ∧ ∃ T x y z L : Int, Bs w.heap.size W s G B R p g8 g9 T x y z L ∧ Good s p x y z L ∧ 3 ≤ L) ∧ Below w.heap.size w W)
      (OwnFrom.and (fun s' A' B' row hs' hg hr => by
        obtain ⟨T, x, y, z, L, h1, h2⟩ := hs'
        exact ⟨T, x, y, z, L, h1.kept hg (fun r e => ⟨by have h9 := HZ2.out; have h8 := HAP.out.hB; have := (hr r e).1; omega, (hr r e).2⟩), h2⟩) (ownFrom_below (Nat.le_refl _) HBW2.out.size))
      (fun c => OwnFrom.and (fun s' A' B' row hs' hg hr => by
        obtain ⟨h0, T, x, y, z, L, h1, h2⟩ := hs'
        exact ⟨h0, T, x, y, z, L, h1.kept hg (fun r e => ⟨by have h9 := HZ2.out; have h8 := HAP.out.hB; have := (hr r e).1; omega, (hr r e).2⟩), h2⟩) (ownFrom_below (Nat.le_refl _) HBW2.out.size))
      ⟨⟨T, _, _, _, _, HBS2.out, .inl ⟨rfl, rfl, rfl, rfl⟩, hT0, hT1, fun h => absurd rfl h⟩, HBW2.out⟩ ?a1 ?assign ?body ?done ?stop
    case assign =>
      intro l x W K hK
      gi_wp2
      exact hK
    case body =>
      rintro l pre ⟨k, hk⟩ W ⟨⟨T, x, y, z, L, hbs, hg, t0, t1, _⟩, hB⟩ _
      have HBSW := hid hbs
      have HG := hid hg
      have HBB := hid hB
      have LC := hid (fun W => long s p k W hs (by omega) (by omega))
      obtain ⟨hlk, hlk3⟩ := long_bk hk
      rw [hlk] at LC
      have HK := hid hk
      have hN258 : longF s p k 258 0 ≤ 258 := by have := (longF_ge s p k 258 0).2; omega
      obtain ⟨N, hN⟩ : ∃ N, N = longF s p k 258 0 := ⟨_, rfl⟩
      have HN := hid hN
      rw [← hN] at LC hlk3 hN258
      have d3 := cell1 hbs.r3
      have d4 := cell1 hbs.r4
      obtain ⟨dG, _, _⟩ := hbs.ch.cG
      obtain ⟨hL1, hL2⟩ := hg.ge
      clear hbs hg hB hlk hN
      gi_upto_region 4 with fail
      gi_cut [11] from 47 (fun n wx => n = .int .i64 N ∧ Below W.heap.size W wx)
      case first =>
        gi_region_with (first | (refine ⟨trivial, (CallsIn.inRound l (callsIn_wide.2 (LC.out _))).mono ?_⟩; rintro e w5 ⟨rfl, b5⟩))
        all_goals gi_wp2
        all_goals gi_meet
        all_goals exact ⟨rfl, (Below.refl _ _).drew.trans (by assumption)⟩
      case rest =>
        obtain ⟨rfl, hcb⟩ := hcut
        have HCB := hid hcb
        have HB5 := hid (HBSW.out.step hcb)
        have HBB5 := hid (HBB.out.trans (hcb.mono HBB.out.size))
        have r5 := HB5.out.r5
        have r8 := HB5.out.r8
        have r9 := HB5.out.r9
        have c5 := cell1 r5
        have c9 := cell1 r9
        have f5 := frozen_of_row wc (w.heap.size + 1 + 1) 0 _ _ r5
        clear d3 d4 dG hcb
        by_cases hlt : L < (N : Int)
        · have c8a := cell30 r8
          have c8b : wc.cell? ⟨g8, 1, none⟩ = some (.int .i64 y) := by rw [cell_of_row _ _ _ _ _ _ r8]; rfl
          have c8c : wc.cell? ⟨g8, 2, none⟩ = some (.int .i64 z) := by rw [cell_of_row _ _ _ _ _ _ r8]; rfl
          have f8a := frozen_of_row wc g8 0 _ _ r8
          have f8b := frozen_of_row wc g8 1 _ _ r8
          have f8c := frozen_of_row wc g8 2 _ _ r8
          have f9 := frozen_of_row wc g9 0 _ _ r9
          have n1 : ¬ g9 = g8 := fun e => HAP.out.h89 e.symm
          have n2 : ¬ g8 = g9 := HAP.out.h89
          clear c5 f5
          gi_upto_region 7 with fail
          have HBV := hid ((HB5.out.set8 HAP.out 0 (N : Int) (k : Int)).set9 HAP.out (N : Int))
          have HKV := hid ((keeps_below HCB.out).trans ((((KeepsOthers.setCell wc ⟨g8, 0, none⟩ (.int .u8 0)).trans (KeepsOthers.setCell _ ⟨g8, 1, none⟩ (.int .i64 (N : Int)))).trans (KeepsOthers.setCell _ ⟨g8, 2, none⟩ (.int .i64 (k : Int)))).trans (KeepsOthers.setCell _ ⟨g9, 0, none⟩ (.int .i64 (N : Int)))))
          have HSV := hid (fun (hst : St W s G B R p wa.heap.size (wa.heap.size + 1)) => ((((hst.step HCB.out).setOther 0 (.int .u8 0) (k := g8) (by have := HAP.out.hG; have := HAP.out.h8; omega) (by have := HAP.out.hR; have := HAP.out.h8; omega) (by have := HAP.out.hB; have := HAP.out.h8; omega) (by omega) (by omega)).setOther 1 (.int .i64 (N : Int)) (k := g8) (by have := HAP.out.hG; have := HAP.out.h8; omega) (by have := HAP.out.hR; have := HAP.out.h8; omega) (by have := HAP.out.hB; have := HAP.out.h8; omega) (by omega) (by omega)).setOther 2 (.int .i64 (k : Int)) (k := g8) (by have := HAP.out.hG; have := HAP.out.h8; omega) (by have := HAP.out.hR; have := HAP.out.h8; omega) (by have := HAP.out.hB; have := HAP.out.h8; omega) (by omega) (by omega)).setOther 0 (.int .i64 (N : Int)) (k := g9) (by have := HAP.out.hG; have := HAP.out.h9; omega) (by have := HAP.out.hR; have := HAP.out.h9; omega) (by have := HAP.out.hB; have := HAP.out.h9; omega) (by omega) (by omega))
          have HWV := hid ((((HBB5.out.setCell (p := ⟨g8, 0, none⟩) (by show w.heap.size ≤ g8; have := HAP.out.h8; omega) (.int .u8 0)).setCell (p := ⟨g8, 1, none⟩) (by show w.heap.size ≤ g8; have := HAP.out.h8; omega) (.int .i64 (N : Int))).setCell (p := ⟨g8, 2, none⟩) (by show w.heap.size ≤ g8; have := HAP.out.h8; omega) (.int .i64 (k : Int))).setCell (p := ⟨g9, 0, none⟩) (by show w.heap.size ≤ g9; have := HAP.out.h9; omega) (.int .i64 (N : Int)))
          have HGV : Hid (Good s p 0 (N : Int) (k : Int) (N : Int)) := hid (.inr ⟨k, HK.out, rfl, rfl, rfl, by rw [HN.out], by omega⟩)
          clear c8a c8b c8c f8a f8b f8c f9 c9 n1 n2 r5 r8 r9
          generalize (((wc.setCell ⟨g8, 0, none⟩ (.int .u8 0)).setCell ⟨g8, 1, none⟩ (.int .i64 (N : Int))).setCell ⟨g8, 2, none⟩ (.int .i64 (k : Int))).setCell ⟨g9, 0, none⟩ (.int .i64 (N : Int)) = V at HBV HKV HSV HWV ⊢
          have v5 := HBV.out.r5
          have c5 := cell1 v5
          have f5 := frozen_of_row V (w.heap.size + 1 + 1) 0 _ _ v5
          have w0 : IntKind.i64.wrap (T - 1) = T - 1 := IntWalk.i64_in _ (by omega)
          gi_upto_region 8 with fail
          have HBY := hid (HBV.out.set5 HAP.out (T - 1))
          have HKY := hid (HKV.out.trans (KeepsOthers.setCell V ⟨w.heap.size + 1 + 1, 0, none⟩ (.int .i64 (T - 1))))
          have HSY := hid (fun hst => (HSV.out hst).setOther 0 (.int .i64 (T - 1)) (k := w.heap.size + 1 + 1) (by have := HAP.out.hG; omega) (by have := HAP.out.hR; omega) (by have := HAP.out.hB; omega) (by have := HAP.out.h8; omega) (by have := HAP.out.h8; omega))
          have HWY := hid (HWV.out.setCell (p := ⟨w.heap.size + 1 + 1, 0, none⟩) (by show w.heap.size ≤ w.heap.size + 1 + 1; omega) (.int .i64 (T - 1)))
          clear v5 c5 f5
          generalize V.setCell ⟨w.heap.size + 1 + 1, 0, none⟩ (.int .i64 (T - 1)) = Y at HBY HKY HSY HWY ⊢
          have c5 := cell1 HBY.out.r5
          have c9 := cell1 HBY.out.r9
          by_cases e1 : T - 1 = 0
          · have HE1 := hid e1
            rw [e1] at c5
            clear e1
            gi_wp2
            refine ⟨HKY.out, ⟨rfl, T - 1, _, _, _, _, HBY.out, HGV.out, by omega⟩, HWY.out⟩
          · have e1' : (T - 1 == 0) = false := by simpa using e1
            have HT9 := hid (show 1 ≤ T - 1 ∧ T - 1 ≤ 1000 by omega)
            generalize T - 1 = T2 at *
            by_cases e2 : (N : Int) = 258
            · have HE2 := hid e2
              rw [e2] at c9
              clear e2
              gi_wp2
              refine ⟨HKY.out, ⟨rfl, T2, _, _, _, _, HBY.out, HGV.out, by omega⟩, HWY.out⟩
            · have e2' : ((N : Int) == 258) = false := by simpa using e2
              gi_wp2
              refine ⟨HKY.out, HSY.out, ⟨T2, _, _, _, _, HBY.out, HGV.out, HT9.out.1, HT9.out.2, fun _ => by omega⟩, HWY.out⟩
        · have V0 : True := trivial
          clear c5 c9 f5 r5 r8 r9
          obtain ⟨V, hV⟩ : ∃ V : World, V = wc := ⟨_, rfl⟩
          have HBV : Hid (Bs w.heap.size V s G B R p g8 g9 T x y z L) := hid (by rw [hV]; exact HB5.out)
          have HKV : Hid (KeepsOthers W V) := hid (by rw [hV]; exact keeps_below HCB.out)
          have HSV : Hid (St W s G B R p wa.heap.size (wa.heap.size + 1) → St V s G B R p wa.heap.size (wa.heap.size + 1)) := hid (fun hst => by rw [hV]; exact hst.step HCB.out)
          have HWV : Hid (Below w.heap.size w V) := hid (by rw [hV]; exact HBB5.out)
          have HGV : Hid (Good s p x y z L) := hid HG.out
          have c9 := cell1 HB5.out.r9
          gi_upto_region 7 with fail
          clear c9
          rw [← hV]
          clear hV
          have v5 := HBV.out.r5
          have c5 := cell1 v5
          have f5 := frozen_of_row V (w.heap.size + 1 + 1) 0 _ _ v5
          have w0 : IntKind.i64.wrap (T - 1) = T - 1 := IntWalk.i64_in _ (by omega)
          gi_upto_region 8 with fail
          have HBY := hid (HBV.out.set5 HAP.out (T - 1))
          have HKY := hid (HKV.out.trans (KeepsOthers.setCell V ⟨w.heap.size + 1 + 1, 0, none⟩ (.int .i64 (T - 1))))
          have HSY := hid (fun hst => (HSV.out hst).setOther 0 (.int .i64 (T - 1)) (k := w.heap.size + 1 + 1) (by have := HAP.out.hG; omega) (by have := HAP.out.hR; omega) (by have := HAP.out.hB; omega) (by have := HAP.out.h8; omega) (by have := HAP.out.h8; omega))
          have HWY := hid (HWV.out.setCell (p := ⟨w.heap.size + 1 + 1, 0, none⟩) (by show w.heap.size ≤ w.heap.size + 1 + 1; omega) (.int .i64 (T - 1)))
          clear v5 c5 f5
          generalize V.setCell ⟨w.heap.size + 1 + 1, 0, none⟩ (.int .i64 (T - 1)) = Y at HBY HKY HSY HWY ⊢
          have c5 := cell1 HBY.out.r5
          have c9 := cell1 HBY.out.r9
          by_cases e1 : T - 1 = 0
          · have HE1 := hid e1
            rw [e1] at c5
            clear e1
            gi_wp2
            refine ⟨HKY.out, ⟨rfl, T - 1, _, _, _, _, HBY.out, HGV.out, by omega⟩, HWY.out⟩
          · have e1' : (T - 1 == 0) = false := by simpa using e1
            have HT9 := hid (show 1 ≤ T - 1 ∧ T - 1 ≤ 1000 by omega)
            generalize T - 1 = T2 at *
            by_cases e2 : L = 258
            · have HE2 := hid e2
              rw [e2] at c9
              clear e2
              gi_wp2
              refine ⟨HKY.out, ⟨rfl, T2, _, _, _, _, HBY.out, HGV.out, by omega⟩, HWY.out⟩
            · have e2' : (L == 258) = false := by simpa using e2
              gi_wp2
              refine ⟨HKY.out, HSY.out, ⟨T2, _, _, _, _, HBY.out, HGV.out, HT9.out.1, HT9.out.2, fun _ => by omega⟩, HWY.out⟩
    case done =>
      rintro D ys W hD hys ⟨⟨T, x, y, z, L, hbs, hg, _, _, hn3⟩, hB⟩ hK
      have H3 := hid (fun r : Rep s p => hn3 (hys r))
      clear hys hn3
      have HBS3 := hid hbs
      have HG3 := hid hg
      have HBB3 := hid hB
      have HKD0 := hid hK
      have d8a := cell30 hbs.r8
      have d8b : W.cell? ⟨g8, 1, none⟩ = some (.int .i64 y) := by rw [cell_of_row _ _ _ _ _ _ hbs.r8]; rfl
      have d8c : W.cell? ⟨g8, 2, none⟩ = some (.int .i64 z) := by rw [cell_of_row _ _ _ _ _ _ hbs.r8]; rfl
      have d9 := cell1 hbs.r9
      have d6a := cell30 hbs.r6
      have d6b : W.cell? ⟨w.heap.size + 1 + 1 + 1, 1, none⟩ = some (.int .i64 0) := by rw [cell_of_row _ _ _ _ _ _ hbs.r6]; rfl
      have d6c : W.cell? ⟨w.heap.size + 1 + 1 + 1, 2, none⟩ = some (.int .i64 0) := by rw [cell_of_row _ _ _ _ _ _ hbs.r6]; rfl
      have f6a := frozen_of_row W (w.heap.size + 1 + 1 + 1) 0 _ _ hbs.r6
      have f6b := frozen_of_row W (w.heap.size + 1 + 1 + 1) 1 _ _ hbs.r6
      have f6c := frozen_of_row W (w.heap.size + 1 + 1 + 1) 2 _ _ hbs.r6
      have n1 : ¬ g9 = w.heap.size + 1 + 1 + 1 := by have := HAP.out.h9; omega
      have n2 : ¬ w.heap.size + 1 + 1 + 1 = g9 := by have := HAP.out.h9; omega
      have n3 : ¬ g8 = w.heap.size + 1 + 1 + 1 := by have := HAP.out.h8; omega
      have n4 : ¬ w.heap.size + 1 + 1 + 1 = g8 := by have := HAP.out.h8; omega
      clear hbs hg hB hK
      gi_upto_region 9 with fail
      gi_region
      all_goals gi_wp2
      have hl6 : w.heap.size + 4 ≤ D := by have h9 := HZ2.out; have := HAP.out.h8; omega
      have R7 := row3 HBS3.out.r6 (.int .u8 x) (.int .i64 y) (.int .i64 z)
      have HKD : ((((W.setCell ⟨w.heap.size + 1 + 1 + 1, 0, none⟩ (.int .u8 x)).setCell ⟨w.heap.size + 1 + 1 + 1, 1, none⟩ (.int .i64 y)).setCell ⟨w.heap.size + 1 + 1 + 1, 2, none⟩ (.int .i64 z)).drew).heap[D]? = some (.deferred (some [])) := by
        show (((W.setCell ⟨w.heap.size + 1 + 1 + 1, 0, none⟩ (.int .u8 x)).setCell ⟨w.heap.size + 1 + 1 + 1, 1, none⟩ (.int .i64 y)).setCell ⟨w.heap.size + 1 + 1 + 1, 2, none⟩ (.int .i64 z)).heap[D]? = _
        rw [Below.heap_setCell _ _ _ _ (by show D ≠ w.heap.size + 1 + 1 + 1; omega), Below.heap_setCell _ _ _ _ (by show D ≠ w.heap.size + 1 + 1 + 1; omega), Below.heap_setCell _ _ _ _ (by show D ≠ w.heap.size + 1 + 1 + 1; omega)]
        exact HKD0.out
      have HLB : Below w.heap.size w ((((W.setCell ⟨w.heap.size + 1 + 1 + 1, 0, none⟩ (.int .u8 x)).setCell ⟨w.heap.size + 1 + 1 + 1, 1, none⟩ (.int .i64 y)).setCell ⟨w.heap.size + 1 + 1 + 1, 2, none⟩ (.int .i64 z)).drew) :=
        (((HBB3.out.setCell (p := ⟨w.heap.size + 1 + 1 + 1, 0, none⟩) (by show w.heap.size ≤ w.heap.size + 1 + 1 + 1; omega) _).setCell (p := ⟨w.heap.size + 1 + 1 + 1, 1, none⟩) (by show w.heap.size ≤ w.heap.size + 1 + 1 + 1; omega) _).setCell (p := ⟨w.heap.size + 1 + 1 + 1, 2, none⟩) (by show w.heap.size ≤ w.heap.size + 1 + 1 + 1; omega) _).drew
      refine ⟨by simp, .inl ⟨_, _, rfl, run_takeDeferred HKD, ?_⟩⟩
      exact ⟨_, results_cell_tmp (fn := Try.f21) Try.results21 _ _ (w.heap.size + 1 + 1 + 1) 24 #[.int .u8 x, .int .i64 y, .int .i64 z] (0, 0) _ rfl (.int .i64 L) rfl
        (row_kept R7 (grownBy_putObj' _ D (.deferred none)) (fun r e => by cases e; exact ⟨_, HKD, rfl⟩)) Try.underlying24 rfl size24, ⟨x, y, z, L, rfl, HG3.out, H3.out⟩, HLB.trans (belowK_b (w := w) (Nat.le_refl _) _ D _ _ (by omega) HKD rfl rfl)⟩
    case stop =>
      rintro D cd pre W hD _ ⟨⟨rfl, T, x, y, z, L, hbs, hg, hn3⟩, hB⟩ hK
      have H3 := hid (fun _ : Rep s p => hn3)
      clear hn3
      have HBS3 := hid hbs
      have HG3 := hid hg
      have HBB3 := hid hB
      have HKD0 := hid hK
      have d8a := cell30 hbs.r8
      have d8b : W.cell? ⟨g8, 1, none⟩ = some (.int .i64 y) := by rw [cell_of_row _ _ _ _ _ _ hbs.r8]; rfl
      have d8c : W.cell? ⟨g8, 2, none⟩ = some (.int .i64 z) := by rw [cell_of_row _ _ _ _ _ _ hbs.r8]; rfl
      have d9 := cell1 hbs.r9
      have d6a := cell30 hbs.r6
      have d6b : W.cell? ⟨w.heap.size + 1 + 1 + 1, 1, none⟩ = some (.int .i64 0) := by rw [cell_of_row _ _ _ _ _ _ hbs.r6]; rfl
      have d6c : W.cell? ⟨w.heap.size + 1 + 1 + 1, 2, none⟩ = some (.int .i64 0) := by rw [cell_of_row _ _ _ _ _ _ hbs.r6]; rfl
      have f6a := frozen_of_row W (w.heap.size + 1 + 1 + 1) 0 _ _ hbs.r6
      have f6b := frozen_of_row W (w.heap.size + 1 + 1 + 1) 1 _ _ hbs.r6
      have f6c := frozen_of_row W (w.heap.size + 1 + 1 + 1) 2 _ _ hbs.r6
      have n1 : ¬ g9 = w.heap.size + 1 + 1 + 1 := by have := HAP.out.h9; omega
      have n2 : ¬ w.heap.size + 1 + 1 + 1 = g9 := by have := HAP.out.h9; omega
      have n3 : ¬ g8 = w.heap.size + 1 + 1 + 1 := by have := HAP.out.h8; omega
      have n4 : ¬ w.heap.size + 1 + 1 + 1 = g8 := by have := HAP.out.h8; omega
      clear hbs hg hB hK
      gi_upto_region 9 with fail
      gi_region
      all_goals gi_wp2
      have hl6 : w.heap.size + 4 ≤ D := by have h9 := HZ2.out; have := HAP.out.h8; omega
      have R7 := row3 HBS3.out.r6 (.int .u8 x) (.int .i64 y) (.int .i64 z)
      have HKD : ((((W.setCell ⟨w.heap.size + 1 + 1 + 1, 0, none⟩ (.int .u8 x)).setCell ⟨w.heap.size + 1 + 1 + 1, 1, none⟩ (.int .i64 y)).setCell ⟨w.heap.size + 1 + 1 + 1, 2, none⟩ (.int .i64 z)).drew).heap[D]? = some (.deferred (some [])) := by
        show (((W.setCell ⟨w.heap.size + 1 + 1 + 1, 0, none⟩ (.int .u8 x)).setCell ⟨w.heap.size + 1 + 1 + 1, 1, none⟩ (.int .i64 y)).setCell ⟨w.heap.size + 1 + 1 + 1, 2, none⟩ (.int .i64 z)).heap[D]? = _
        rw [Below.heap_setCell _ _ _ _ (by show D ≠ w.heap.size + 1 + 1 + 1; omega), Below.heap_setCell _ _ _ _ (by show D ≠ w.heap.size + 1 + 1 + 1; omega), Below.heap_setCell _ _ _ _ (by show D ≠ w.heap.size + 1 + 1 + 1; omega)]
        exact HKD0.out
      have HLB : Below w.heap.size w ((((W.setCell ⟨w.heap.size + 1 + 1 + 1, 0, none⟩ (.int .u8 x)).setCell ⟨w.heap.size + 1 + 1 + 1, 1, none⟩ (.int .i64 y)).setCell ⟨w.heap.size + 1 + 1 + 1, 2, none⟩ (.int .i64 z)).drew) :=
        (((HBB3.out.setCell (p := ⟨w.heap.size + 1 + 1 + 1, 0, none⟩) (by show w.heap.size ≤ w.heap.size + 1 + 1 + 1; omega) _).setCell (p := ⟨w.heap.size + 1 + 1 + 1, 1, none⟩) (by show w.heap.size ≤ w.heap.size + 1 + 1 + 1; omega) _).setCell (p := ⟨w.heap.size + 1 + 1 + 1, 2, none⟩) (by show w.heap.size ≤ w.heap.size + 1 + 1 + 1; omega) _).drew
      refine ⟨by simp, .inl ⟨_, _, rfl, run_takeDeferred HKD, ?_⟩⟩
      exact ⟨_, results_cell_tmp (fn := Try.f21) Try.results21 _ _ (w.heap.size + 1 + 1 + 1) 24 #[.int .u8 x, .int .i64 y, .int .i64 z] (0, 0) _ rfl (.int .i64 L) rfl
        (row_kept R7 (grownBy_putObj' _ D (.deferred none)) (fun r e => by cases e; exact ⟨_, HKD, rfl⟩)) Try.underlying24 rfl size24, ⟨x, y, z, L, rfl, HG3.out, H3.out⟩, HLB.trans (belowK_b (w := w) (Nat.le_refl _) _ D _ _ (by omega) HKD rfl rfl)⟩
end Lz
end Go.Proofs.Ytlhgkemiakekoaa
