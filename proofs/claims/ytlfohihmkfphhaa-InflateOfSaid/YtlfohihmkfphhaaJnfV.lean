/- INFLATE: copies and stored blocks, of the program. -/
import Derived.Test.YtlfohihmkfphhaaJnfU
import Derived.Deep.AppendLies
import Derived.Deep.RegionHeldLaw
namespace Go.Proofs.Ytlfohihmkfphhaa
set_option linter.unusedVariables false
open Go.RowKit
open Go.Proofs.Huf
attribute [local go_sem ↓] Go.wp_at_zero Go.wp_at_succ
namespace Inf
open Huff
theorem kept_bytes {w w' : World} {B n k : Nat} {v : Value} {xs : List Value} {t : TypeId} {r : Nat × Nat} {cs : Array Value} (ho : w.ownsRow B 5 1 v n xs) (hg : w.grownBy w' v.ownBlock) (hb : w.heap[k]? = some (.cells cs t r)) (ht : t ≠ 5) :
    w'.heap[k]? = some (.cells cs t r) := by
  have hlt := (Array.getElem?_eq_some_iff.1 hb).1
  have hne : some k ≠ v.ownBlock := by
    intro e
    rcases ho.2 with ⟨rfl, rfl⟩ | ⟨g, cap, cur, rfl, _, hgc, _⟩
    · simp [Value.ownBlock] at e
    · simp only [Value.ownBlock, Option.some.injEq] at e
      subst e
      rw [hb] at hgc
      simp only [Option.some.injEq, Obj.cells.injEq] at hgc
      exact ht hgc.2.1
  exact (hg.block k hlt hne).trans hb
theorem own_set {w : World} {B S i : Nat} {v x : Value} {out : List UInt8} (ho : OwnB w B v out) {c0 : Array Value} {t0 : TypeId} {r0 : Nat × Nat} (hS : w.heap[S]? = some (.cells c0 t0 r0)) (ht : t0 ≠ 5) : OwnB (w.setCell ⟨S, i, none⟩ x) B v out :=
  own_only ho (Only.setCell S w i x) hS ht
/-- Bytes more. -/
theorem St.more {w w1 a : World} {S G B : Nat} {s : ByteArray} {p : Nat} {v v' : Value} {out l : List UInt8} {most : Nat} (h : St w S G B s p v out most) (k : Kp TP B a w) (hg : w.grownBy w1 v.ownBlock)
    (ho : w1.ownsRow B 5 1 v' (out.length + l.length) (byteCells out ++ byteCells l)) :
    w1.cell? ⟨S, 1, none⟩ = some v ∧ w1.frozen? ⟨S, 1, none⟩ = false ∧ St (w1.setCell ⟨S, 1, none⟩ v') S G B s p v' (out ++ l) most ∧ Kp TP B a (w1.setCell ⟨S, 1, none⟩ v') := by
  have hst := kept_bytes h.own hg h.st (by decide)
  have hrd : w1.heap[G]? = _ := kept_bytes h.own hg (show w.heap[G]? = _ from h.rd) (by decide)
  have ho' : OwnB w1 B v' (out ++ l) := by
    unfold OwnB
    rw [byteCells_append, List.length_append]
    exact ho
  refine ⟨by rw [cell_of_row _ _ _ _ _ _ hst]; rfl, frozen_of_row _ _ _ _ _ hst, ⟨heap_setCell_same w1 S 1 _ 65 v' hst, (heap_setCell_other w1 ⟨S, 1, none⟩ G v' (fun e => h.ne e.symm)).trans hrd, own_set ho' hst (by decide), h.lowS, h.lowG⟩, k.trans ?_⟩
  have k1 : Kp TP B w w1 := ⟨(Below.refl B w).grown hg h.size (fun j hj => (h.own.lt j hj).1), fun i cs t r hi hn => kept_bytes h.own hg hi (fun e => hn (by rw [e]; decide)), fun i cs r hi ho => ⟨cs, kept_bytes h.own hg hi (by decide), rfl, ho⟩⟩
  exact k1.trans (.of_only (Only.setCell S w1 1 v') hst (by decide) h.lowS)
abbrev outK (S G B : Nat) (s : ByteArray) (most : Nat) (out : List UInt8) (q : Nat) (x : Value) (w' : World) : Prop := x = .tuple #[] ∧ ∃ v, St w' S G B s q v out most
set_option maxRecDepth 100000 in
set_option maxHeartbeats 4000000 in
theorem repeatW (S G B : Nat) (s : ByteArray) (p long back : Nat) (v : Value) (out : List UInt8) (most : Nat) (w : World) (h : St w S G B s p v out most) (hl : long ≤ 300) (hb0 : 1 ≤ back) (hb : back ≤ 40000) (hm : most ≤ 65000) (ho : out.length ≤ most) (X L : Nat) :
    Calls Try.prog 89 #[.pointer (some ⟨S, 0, none⟩), .int .i64 (long : Int), .int .i64 (back : Int)] w fun e w' => Did (repeatP most out long back X L p) (outK S G B s most) e w' ∧ Kp TP B w w' := by
  have HT := hid h
  have c1 := h.c1
  obtain ⟨A, cap, g, rfl, _⟩ := OwnB.form h.own
  have e1 : IntKind.i64.wrap ((out.length : Int) - (back : Int)) = (out.length : Int) - (back : Int) := IntWalk.i64_in _ (by omega)
  unfold repeatP
  by_cases hlt : back ≤ out.length
  · rw [if_pos hlt]
    obtain ⟨F, hF⟩ : ∃ F : Nat, (out.length : Int) - (back : Int) = (F : Int) := ⟨out.length - back, by omega⟩
    have g1 : ¬ (F : Int) < 0 := by omega
    have HRM := hid (room S G B s p long _ out most w h (by omega) (by omega) (by omega))
    unfold roomR at HRM
    have HF := hid hF
    clear h
    by_cases hr : out.length + long ≤ most
    · rw [if_pos hr] at HRM ⊢
      obtain ⟨i0, hi, hz0, hz1, hz2⟩ := info_parts info5
      have HI := hid hi
      clear hi
      go_enter Try.func89, Try.ntmps89
      go_wp2_with fail
      refine HRM.out.mono ?_
      rintro e w1 ⟨⟨_, rfl, rfl, h1⟩, k1⟩
      have H1 := hid h1
      have K1 := hid k1
      clear h1 k1 c1 HRM
      go_wp2_with fail
      go_loopw [23] (fun i wr => ∃ (j : Nat) (v' : Value), j ≤ long ∧ i = .int .i64 (j : Int) ∧ St wr S G B s p v' (copyT out back j) most ∧ Kp TP B w wr) (fun i _ => long - (intOf i).toNat)
      case atStart => exact ⟨0, _, Nat.zero_le _, rfl, H1.out, K1.out⟩
      case round =>
        obtain ⟨j, v', hj, rfl, hst, hkp⟩ := hrel
        have HS := hid hst
        have HK := hid hkp
        have c1 := hst.c1
        have f1 := hst.free 1
        have hlen := copyT_len out back j
        obtain ⟨A', cap', g', rfl, hcells⟩ := OwnB.form hst.own
        clear hst hkp
        by_cases hjl : j < long
        · have HC := hid (show copyT out back (j + 1) = copyT out back j ++ [(copyT out back j).getD ((copyT out back j).length - back) 0] from rfl)
          obtain ⟨hA', ce⟩ := hcells (F + j) (by omega)
          subst hA'
          have hFj : (copyT out back j).length - back = F + j := by omega
          rw [hFj] at HC
          clear hcells
          generalize copyT out back j = m at *
          generalize m.getD (F + j) 0 = u at HC ce
          have hgt : (F : Int) + (j : Int) < (m.length : Int) := by omega
          have hge : (0 : Int) ≤ (F : Int) + (j : Int) := by omega
          have e2 : IntKind.i64.wrap ((F : Int) + (j : Int)) = ((F + j : Nat) : Int) := by rw [IntWalk.i64_in _ (by omega)]; omega
          have hgt' : ((F + j : Nat) : Int) < (m.length : Int) := by omega
          have HL1 := hid (show m.length + 1 ≤ maxLen by unfold maxLen; omega)
          have HL2 := hid (show (m.length + 1) * 1 ≤ 140737488355328 by omega)
          have HBW := hid (show B ≤ wr.heap.size from HS.out.size)
          have hFm : F + j < m.length := by omega
          have ez : ((F : Int) + (j : Int)).toNat = F + j := by omega
          have HLEN := hid hlen
          clear hlen
          have y0 := World.new_ne wr _ c1
          have y1 := World.new_ne wr _ ce
          have ye : S ≠ wr.heap.size := by have := HS.out.lt; omega
          have c1a : ∀ o, (wr.alloc o).cell? ⟨S, 1, none⟩ = some (.slice (some ⟨g', 0, none⟩) m.length cap') := fun o => (World.cell?_alloc_past _ _ _ HS.out.lt).trans c1
          go_upto_region 7 with fail
          go_region_law ((refine step_append_lies _ (by rfl) _ _ _ (by rfl) B 5 i0 (.int .u8 0) 1 1 und63 HI.out hz0 hz1 hz2 (by rfl) (by decide) (.slice (some ⟨g', 0, none⟩) m.length cap') m.length _ (by rfl) (by first | exact HS.out.own.alloc _ | exact (HS.out.own.alloc _).drew | exact HS.out.own.drew.alloc _) ⟨wr.heap.size, 0, none⟩ 1 1 [.int .u8 (u.toNat : Int)] (by rfl) (by rfl) (World.news_of_block (heap_alloc_new _ _)) (by simp [Value.oneCell']) (by decide) HL1.out HL2.out (by have := HBW.out; simp; omega) (wr.heap.size + 1) (by simp) ?_; intro g1 cap1 w1 hown1 hgrow1 hat1 hlt1; obtain ⟨d0, d1, d2, d3⟩ := St.more (l := [u]) (a := w) (by first | exact HS.out.grow ((Below.refl _ _).alloc (Nat.le_refl _) _) | exact (HS.out.grow ((Below.refl _ _).alloc (Nat.le_refl _) _)).grow (Below.refl _ _).drew) (by first | exact HK.out.alloc HBW.out _ | exact (HK.out.alloc HBW.out _).trans (.of_below (Below.refl _ _).drew (by have := HBW.out; simp; omega))) hgrow1 hown1; have D2 := hid d2; have D3 := hid d3; clear d2 d3 hown1 hgrow1 hat1))
          all_goals go_wp2_with fail
          all_goals go_roundw
          all_goals first
            | exact ⟨j + 1, .slice (some ⟨g1, 0, none⟩) (m.length + 1) cap1, by omega, by go_num, by rw [HC.out]; first | exact D2.out | exact D2.out.grow (Below.refl _ _).drew, by first | exact D3.out | exact D3.out.trans (.of_below (Below.refl _ _).drew D2.out.size)⟩
            | (simp [intOf]; omega)
        · obtain rfl : j = long := by omega
          go_wp2_with fail
          go_returns
          exact ⟨⟨_, rfl, rfl, _, HS.out⟩, HK.out⟩
    · rw [if_neg hr] at HRM ⊢
      go_enter Try.func89, Try.ntmps89
      go_wp2_with fail
      refine HRM.out.mono ?_
      rintro e w1 ⟨hd, k1⟩
      obtain rfl := hd.bad
      clear hd
      have K1 := hid k1
      clear k1 c1 HRM
      go_wp2_with fail
      exact ⟨rfl, rfl, K1.out⟩
  · rw [if_neg hlt]
    have g1 : (out.length : Int) - (back : Int) < 0 := by omega
    go_enter Try.func89, Try.ntmps89
    go_wp2_with fail
    exact ⟨rfl, rfl, Kp.refl _ _ _⟩
end Inf
end Go.Proofs.Ytlfohihmkfphhaa
