/- INFLATE: the lengths of lengths, of the program; rows copied. -/
import Derived.Test.YtlfohihmkfphhaaJnfF
namespace Go.Proofs.Ytlfohihmkfphhaa
set_option linter.unusedVariables false
open Go.RowKit
open Go.Proofs.Huf
attribute [local go_sem ↓] Go.wp_at_zero Go.wp_at_succ
namespace Inf
open Huff
def ordA : Array Value := #[.int .i64 16, .int .i64 17, .int .i64 18, .int .i64 0, .int .i64 8, .int .i64 7, .int .i64 9, .int .i64 6, .int .i64 10, .int .i64 5, .int .i64 11, .int .i64 4, .int .i64 12, .int .i64 3, .int .i64 13, .int .i64 2, .int .i64 14, .int .i64 1, .int .i64 15]
theorem ordA_at (i : Nat) (h : i < 19) : ordA[i]? = some (.int .i64 (ord i : Int)) :=
  match i, h with
  | 0, _ => rfl
  | 1, _ => rfl
  | 2, _ => rfl
  | 3, _ => rfl
  | 4, _ => rfl
  | 5, _ => rfl
  | 6, _ => rfl
  | 7, _ => rfl
  | 8, _ => rfl
  | 9, _ => rfl
  | 10, _ => rfl
  | 11, _ => rfl
  | 12, _ => rfl
  | 13, _ => rfl
  | 14, _ => rfl
  | 15, _ => rfl
  | 16, _ => rfl
  | 17, _ => rfl
  | 18, _ => rfl
  | n + 19, h => absurd h (by omega)
theorem ord_lt (i : Nat) : ord i < 19 := by
  by_cases h : i < 19
  · have key : ∀ i : Fin 19, ord i.1 < 19 := by decide
    exact key ⟨i, h⟩
  · unfold ord
    rw [List.getD_eq_getElem?_getD, List.getElem?_eq_none (by simp; omega)]
    decide
/-- The lengths of lengths, as they lie. -/
def lolV (f : Nat → Nat) : Array Value := Huff.rowV (fun j => .int .i64 (f j : Int)) 19
theorem lolV_start : (List.replicate 19 (Value.int .i64 0)).toArray = lolV fun _ => 0 := rfl
theorem lolV_set (f : Nat → Nat) (i v : Nat) : (lolV f).setIfInBounds i (.int .i64 (v : Int)) = lolV (upd f i v) := by
  unfold lolV
  rw [Huff.rowV_set]
  apply Huff.rowV_congr
  intro j _
  unfold upd
  split <;> rfl
theorem St.other {w w' : World} {S G B g : Nat} {s : ByteArray} {p : Nat} {v : Value} {out : List UInt8} {most : Nat} {c : Array Value} {r : Nat × Nat} (h : St w S G B s p v out most) (hg : w.heap[g]? = some (.cells c 3 r)) (o : Only g w w') : St w' S G B s p v out most := by
  have hne : ∀ {k : Nat} {cs : Array Value} {t : TypeId} {q : Nat × Nat}, w.heap[k]? = some (.cells cs t q) → t ≠ 3 → w'.heap[k]? = some (.cells cs t q) := by
    intro k cs t q hk ht
    refine (o.block k (Array.getElem?_eq_some_iff.1 hk).1 ?_).trans hk
    rintro rfl
    rw [hg] at hk
    cases hk
    exact ht rfl
  refine ⟨hne h.st (by decide), hne (show w.heap[G]? = _ from h.rd) (by decide), ⟨h.own.1, ?_⟩, h.lowS, h.lowG⟩
  rcases h.own.2 with hn | ⟨g', cap, cur, e, hb, hgg, h3⟩
  · exact .inl hn
  · exact .inr ⟨g', cap, cur, e, hb, hne hgg (by decide), h3⟩
theorem Kp.setNew {T : List Nat} {B g i : Nat} {a w : World} {x : Value} (k : Kp T B a w) (hB : B ≤ a.heap.size) (hg : a.heap.size ≤ g) : Kp T B a (w.setCell ⟨g, i, none⟩ x) := by
  refine ⟨k.below.setCell (by show B ≤ g; omega) _, fun j cs t r hj ht => ?_, fun j cs r hj hc => by
    obtain ⟨c1, h1, e1, o1⟩ := k.rdr j cs r hj hc
    have hjl := (Array.getElem?_eq_some_iff.1 hj).1
    exact ⟨c1, (heap_setCell_other w ⟨g, i, none⟩ j x (by show j ≠ g; omega)).trans h1, e1, o1⟩⟩
  have h2 := (Array.getElem?_eq_some_iff.1 hj).1
  exact (heap_setCell_other w ⟨g, i, none⟩ j x (by show j ≠ g; omega)).trans (k.keep j cs t r hj ht)
/-- What the lengths of lengths are read as. -/
def lolP (many : Nat) : Rdr (Nat → Nat) := bind (lolF many 0 (fun _ => 0)) fun f => if kindOf (wT f 19) = 1 then ret f else fail 2
abbrev lolK (S G B : Nat) (s : ByteArray) (v : Value) (out : List UInt8) (most : Nat) (f : Nat → Nat) (q : Nat) (x : Value) (w' : World) : Prop := St w' S G B s q v out most ∧ DcV w' ⟨f, 19, true⟩ x
set_option maxRecDepth 100000 in
set_option maxHeartbeats 4000000 in
/-- The codes by which the lengths are read. -/
theorem lolW (S G B : Nat) (s : ByteArray) (p many : Nat) (v : Value) (out : List UInt8) (most : Nat) (w : World) (h : St w S G B s p v out most) (hs : s.size ≤ 1048576) (hp : p ≤ 8 * s.size) (hmany : many ≤ 19) :
    Calls Try.prog 74 #[.pointer (some ⟨S, 0, none⟩), .int .i64 (many : Int)] w fun e w' => Did (lolP many (numS s) (8 * s.size) p) (lolK S G B s v out most) e w' ∧ Kp TP B w w' := by
  have HT := hid h
  have HBS := hid h.size
  have HP := hid hp
  have hmk : ∀ W : World, (Instr.makeSlice 22 (.int .i64 19) (.int .i64 19)).run Try.prog W = .ok (.slice (some ⟨W.heap.size, 0, none⟩) 19 19) (W.alloc (.cells (lolV fun _ => 0) 3)) := fun W => make_ints 19 (by omega) W
  obtain ⟨r0, hr0⟩ : ∃ r0, r0 = lolP many (numS s) (8 * s.size) p := ⟨_, rfl⟩
  rw [← hr0]
  have HR0 := hid (show bind (lolF many 0 (fun _ => 0)) (fun f => if kindOf (wT f 19) = 1 then ret f else fail 2) (numS s) (8 * s.size) p = r0 from hr0.symm)
  have g19 : ¬ (19 : Int) < (many : Int) := by omega
  have g19' : (many : Int) ≤ 19 := by omega
  clear h hp hr0
  go_enter Try.func74, Try.ntmps74
  go_wp2_with fail
  refine (orderW _).mono ?_
  rintro e w1 ⟨rfl, rfl⟩
  have he1 : (w.alloc (.cells ordA 3)).heap.size = w.heap.size + 1 := by simp
  go_upto_region 4 with fail
  have HO1 := hid (show ((w.alloc (.cells ordA 3)).alloc (.cells (lolV fun _ => 0) 3)).heap[w.heap.size]? = some (.cells ordA 3 (0, 0)) from (Below.heap_alloc _ _ _ (by simp)).trans (heap_alloc_new _ _))
  have HL1 := hid (show ((w.alloc (.cells ordA 3)).alloc (.cells (lolV fun _ => 0) 3)).heap[w.heap.size + 1]? = some (.cells (lolV fun _ => 0) 3 (0, 0)) from by
    have := heap_alloc_new (w.alloc (.cells ordA 3)) (.cells (lolV fun _ => 0) 3)
    rw [he1] at this
    exact this)
  have HBB := hid (show Below w.heap.size w ((w.alloc (.cells ordA 3)).alloc (.cells (lolV fun _ => 0) 3)) from ((Below.refl _ _).alloc (Nat.le_refl _) _).alloc (by simp) _)
  clear hmk
  have HLT := hid lol_of
  have HORD := hid ordA_at
  have HOLT := hid ord_lt
  go_loopw [19] (fun i wr => ∃ (k p' : Nat) (f : Nat → Nat), k ≤ many ∧ i = .int .i64 (k : Int) ∧ p' ≤ 8 * s.size ∧ wr.heap[w.heap.size]? = some (.cells ordA 3 (0, 0)) ∧ wr.heap[w.heap.size + 1]? = some (.cells (lolV f) 3 (0, 0)) ∧ St wr S G B s p' v out most ∧ Kp TP B w wr ∧ (∀ j, f j ≤ 7) ∧
      bind (lolF (many - k) k f) (fun f => if kindOf (wT f 19) = 1 then ret f else fail 2) (numS s) (8 * s.size) p' = r0) (fun i _ => many - (intOf i).toNat)
  case atStart => exact ⟨0, p, _, Nat.zero_le _, rfl, HP.out, HO1.out, HL1.out, HT.out.grow HBB.out, Kp.of_below HBB.out HBS.out, (fun j => Nat.zero_le _), HR0.out⟩
  case round =>
    obtain ⟨k, p', f, hk, rfl, hp', hO, hL, hst, hkp, hf7, hr⟩ := hrel
    have HST := hid hst
    have HKP := hid hkp
    have HOO := hid hO
    have HLL := hid hL
    have HF7 := hid hf7
    have HSZ := hid hkp.size
    clear hO hL hst hkp hf7
    by_cases hlt : k < many
    · obtain ⟨d, hd⟩ : ∃ d, many - k = d + 1 := ⟨many - k - 1, by omega⟩
      rw [hd] at hr
      unfold lolF at hr
      have hd2 : many - (k + 1) = d := by omega
      have c0 : wr.cell? ⟨w.heap.size, k, none⟩ = some (.int .i64 (ord k : Int)) := by rw [cell_of_row _ _ _ _ _ _ HOO.out]; exact HORD.out k (by omega)
      have hol := HOLT.out k
      have HSET := hid (lolV_set f (ord k))
      have hor : (lolV f)[ord k]? = some (.int .i64 (f (ord k) : Int)) := Huff.rowV_at _ _ _ hol
      have hkm : (k : Int) < (many : Int) := by omega
      have HNM := hid (num S G B s p' 3 v out most wr HST.out hs (by omega) hp')
      cases ht : take 3 (numS s) (8 * s.size) p' with
      | bad f1 =>
        rw [ht] at HNM
        have HR := hid (show r0 = .bad f1 from by rw [← hr, bind_bad (bind_bad ht)])
        clear hr ht
        generalize ord k = o at *
        go_wp2_with fail
        refine HNM.out.mono ?_
        rintro e w3 ⟨hd3, k3⟩
        obtain rfl := hd3.bad
        clear hd3
        have K3 := hid (HKP.out.trans k3)
        clear k3
        go_wp2_with fail
        refine ⟨rfl, ?_, K3.out⟩
        rw [HR.out]
        rfl
      | ok m q =>
        rw [ht] at HNM
        obtain ⟨t1, t2⟩ := take_le ht
        have hm8 := take_lt ht
        have HR := hid (show bind (lolF d (k + 1) (upd f (ord k) m)) (fun f => if kindOf (wT f 19) = 1 then ret f else fail 2) (numS s) (8 * s.size) q = r0 from by
          rw [← hr]
          unfold bind
          rw [ht])
        have HU := hid (show ∀ j, upd f (ord k) m j ≤ 7 from fun j => by
          unfold upd
          split
          · omega
          · exact HF7.out j)
        clear hr ht
        generalize ord k = o at *
        have ho19 : (o : Int) < 19 := by omega
        go_wp2_with (go_at_call 63; refine HNM.out.mono ?_; rintro e w3 ⟨⟨_, rfl, rfl, h3⟩, k3⟩; have H3 := hid h3; have K3 := hid (HKP.out.trans k3); have O3 := hid (k3.keep _ _ _ _ HOO.out (by decide)); have L3 := hid (k3.keep _ _ _ _ HLL.out (by decide)); have c3 : w3.cell? ⟨w.heap.size + 1, o, none⟩ = some (.int .i64 (f o : Int)) := (by rw [cell_of_row _ _ _ _ _ _ L3.out]; exact hor); have f3 : w3.frozen? ⟨w.heap.size + 1, o, none⟩ = false := (frozen_of_row _ _ _ _ _ L3.out); clear h3 k3)
        have HSL := hid (heap_setCell_same w3 (w.heap.size + 1) o _ 3 (.int .i64 (m : Int)) L3.out)
        rw [HSET.out m] at HSL
        go_roundw
        case rel => exact ⟨k + 1, q, upd f o m, by omega, by go_num, t2, (heap_setCell_other w3 ⟨w.heap.size + 1, o, none⟩ w.heap.size _ (by simp)).trans O3.out, HSL.out, H3.out.other L3.out (Only.setCell _ _ _ _), K3.out.setNew HBS.out (by omega), HU.out, by rw [hd2]; exact HR.out⟩
        case measure => simp [intOf]; omega
    · obtain rfl : k = many := by omega
      rw [Nat.sub_self] at hr
      have HR := hid (show (if kindOf (wT f 19) = 1 then ret f else fail 2 : Rdr (Nat → Nat)) (numS s) (8 * s.size) p' = r0 from hr)
      clear hr
      have hints : Ints wr (w.heap.size + 1) 0 19 (fun j => (f j : Int)) := ⟨fun _ => (Array.getElem?_eq_some_iff.1 HLL.out).1, fun j hj => by
        rw [Nat.zero_add, cell_of_row _ _ _ _ _ _ HLL.out]
        exact Huff.rowV_at _ _ _ hj⟩
      have hfine : Fine 19 (fun j => (f j : Int)) := ⟨by omega, fun j _ => by have := HF7.out j; show 0 ≤ (f j : Int) ∧ (f j : Int) ≤ 15; omega⟩
      have hnat : natOf (fun j => (f j : Int)) = f := by funext j; simp [natOf]
      have HK := hid (kind_yes (some ⟨w.heap.size + 1, 0, none⟩) (w.heap.size + 1) 0 19 19 (fun j => (f j : Int)) wr (fun _ => rfl) hints hfine)
      rw [hnat] at HK
      by_cases hk1 : kindOf (wT f 19) = 1
      · rw [if_pos hk1] at HR
        rw [hk1] at HK
        have HN := hid (fun W (hw : Ints W (w.heap.size + 1) 0 19 (fun j => (f j : Int))) => new_yes (some ⟨w.heap.size + 1, 0, none⟩) (w.heap.size + 1) 0 19 19 (fun j => (f j : Int)) W (fun _ => rfl) hw hfine (by rw [hnat]; exact .inl hk1))
        rw [hnat] at HN
        have HIN := hid hints
        clear hints hfine hnat hk1
        go_wp2_with fail
        refine HK.out.mono ?_
        rintro e w3 ⟨rfl, b3⟩
        have H3 := hid (HST.out.grow b3)
        have I3 := hid (HIN.out.below b3)
        have K3 := hid (HKP.out.trans (Kp.of_below b3 HST.out.size))
        clear b3
        go_wp2_with fail
        refine (HN.out _ I3.out).mono ?_
        rintro e w4 ⟨D, b0, dv, rfl, hdc⟩
        have HDC := hid (dcT_of hdc)
        have H4 := hid (H3.out.grow hdc.below)
        have K4 := hid (K3.out.trans (Kp.of_below hdc.below H3.out.size))
        clear hdc
        go_wp2_with fail
        go_ret
        refine ⟨?_, K4.out⟩
        rw [← HR.out]
        exact ⟨_, rfl, H4.out, .inl ⟨rfl, (show 19 ≤ 300 by decide), D, rfl, HDC.out⟩⟩
      · rw [if_neg hk1] at HR
        have hb1 : ((kindOf (wT f 19) : Int) == 1) = false := beq_eq_false_iff_ne.2 (by omega)
        have hb2 : ((kindOf (wT f 19) : Int) != 1) = true := by simp; omega
        generalize kindOf (wT f 19) = kk at *
        clear hints hfine hnat hk1
        go_wp2_with fail
        refine HK.out.mono ?_
        rintro e w3 ⟨rfl, b3⟩
        have K3 := hid (HKP.out.trans (Kp.of_below b3 HST.out.size))
        clear b3
        go_wp2_with fail
        refine ⟨rfl, ?_, K3.out⟩
        rw [← HR.out]
        rfl
end Inf
end Go.Proofs.Ytlfohihmkfphhaa
