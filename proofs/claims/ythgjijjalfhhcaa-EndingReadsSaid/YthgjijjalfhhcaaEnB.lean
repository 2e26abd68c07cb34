/- EndingReads: the walk of the program's reader of an end. -/
import Derived.Test.YthgjijjalfhhcaaEnN
import Derived.OwnWalk
import Derived.Deep.RegionHeld3
import Derived.Deep.DrawnRows
import Derived.Deep.MidRow
namespace Go.Proofs.Ythgjijjalfhhcaa
set_option linter.unusedVariables false
open Go.RowKit
open Go.Proofs.Num
attribute [local go_sem ↓] Go.wp_at_zero Go.wp_at_succ
namespace Edg
open Fld

theorem size72 : (Try.prog.info? 72).map (·.size) = some 4 := by kernel_rfl

theorem results_cell_tmp {P : Program} {fn : Func} {p q : Tmp} {ty : TypeId} (h : fn.results = #[.cell p ty, .tmp q]) (tmps : Array Value) (w : World) (g : Nat) (t : TypeId) (cs : Array Value) (fr : Nat × Nat) (d : TypeDesc)
    (hp : tmps.getD p undef = .pointer (some ⟨g, 0, none⟩)) (v : Value) (hq : tmps.getD q undef = v) (hg : w.heap[g]? = some (.cells cs t fr))
    (hu : P.underlying ty = some d) (hd : (match d with | .struct _ | .array _ _ => true | _ => false) = true) (hi : (P.info? ty).map (·.size) = some cs.size) :
    (results fn tmps).run P w = .ok (.tuple #[.agg cs, v]) w := by
  have hp' : tmps[p]?.getD undef = .pointer (some ⟨g, 0, none⟩) := by simpa using hp
  have hq' : tmps[q]?.getD undef = v := by simpa using hq
  simp [results, h, hp', hq', asAddr, run_loadVar_row w g t ty cs fr d hg hu hd hi]

/-- The state of the walk: the reader, and the result's cells. -/
structure St (w wr : World) (t : ByteArray) (p : Nat) (bad : Bool) : Prop where
  rd : Rd wr (w.heap.size + 1) 125 t p bad
  res : wr.heap[w.heap.size]? = some (.cells #[.int .i64 0, .int .i64 0, .int .i64 0, .int .i64 0] 72 (0, 0))
  below : Below w.heap.size w wr
theorem St.next {w wr wx : World} {t : ByteArray} {p q : Nat} {bad b : Bool} (h : St w wr t p bad) (hl : Fld.Left wr (w.heap.size + 1) 125 t q b wx) : St w wx t q b :=
  ⟨hl.rd, (hl.only.block _ (Array.getElem?_eq_some_iff.1 h.res).1 (by omega)).trans h.res, hl.only.below h.below (by omega)⟩
theorem st_new (w : World) (t : ByteArray) : St w ((w.alloc (.cells #[.int .i64 0, .int .i64 0, .int .i64 0, .int .i64 0] 72)).alloc (.cells #[.string t, .int .i64 0, .bool false] 125)) t 0 false :=
  ⟨by have := heap_alloc_new (w.alloc (.cells #[.int .i64 0, .int .i64 0, .int .i64 0, .int .i64 0] 72)) (.cells #[.string t, .int .i64 0, .bool false] 125); rw [World.size_alloc] at this; exact this,
   (Below.heap_alloc _ _ _ (by simp)).trans (heap_alloc_new _ _), ((Below.refl _ w).alloc (Nat.le_refl _) _).alloc (by simp) _⟩

theorem St.drewN {w wr : World} {t : ByteArray} {p : Nat} {bad : Bool} (h : St w wr t p bad) (n : Nat) : St w (wr.drewN n) t p bad := ⟨h.rd, h.res, below_drewN h.below n⟩

theorem St.alloc {w wr : World} {t : ByteArray} {p : Nat} {bad : Bool} (h : St w wr t p bad) (o : Obj) : St w (wr.alloc o) t p bad :=
  ⟨(Below.heap_alloc _ _ _ h.rd.lt).trans h.rd, (Below.heap_alloc _ _ _ (Array.getElem?_eq_some_iff.1 h.res).1).trans h.res, h.below.alloc h.below.size _⟩
theorem St.step {w wr wx : World} {t : ByteArray} {p : Nat} {bad : Bool} (h : St w wr t p bad) (hb : Below wr.heap.size wr wx) : St w wx t p bad :=
  ⟨(hb.block _ h.rd.lt).trans h.rd, (hb.block _ (Array.getElem?_eq_some_iff.1 h.res).1).trans h.res, h.below.trans (hb.mono h.below.size)⟩

theorem four_cells {w w' : World} {E : Nat} {a b c d : Value} {T : TypeId} (hb : Below w.heap.size w w') (h : w.heap[E]? = some (.cells #[a, b, c, d] T (0, 0))) :
    w'.cell? ⟨E, 0, none⟩ = some a ∧ w'.cell? ⟨E, 1, none⟩ = some b ∧ w'.cell? ⟨E, 2, none⟩ = some c ∧ w'.cell? ⟨E, 3, none⟩ = some d := by
  have h2 := (hb.block E (Array.getElem?_eq_some_iff.1 h).1).trans h
  refine ⟨?_, ?_, ?_, ?_⟩ <;> (rw [cell_of_row _ _ _ _ _ _ h2]; rfl)

theorem row4 {w : World} {g : Nat} {T : TypeId} {x y z u : Value} (h : w.heap[g]? = some (.cells #[x, y, z, u] T (0, 0))) (a b c d : Value) :
    ((((w.setCell ⟨g, 0, none⟩ a).setCell ⟨g, 1, none⟩ b).setCell ⟨g, 2, none⟩ c).setCell ⟨g, 3, none⟩ d).heap[g]? = some (.cells #[a, b, c, d] T (0, 0)) := by
  have h1 := heap_setCell_same w g 0 _ T a h
  have h2 := heap_setCell_same _ g 1 _ T b h1
  have h3 := heap_setCell_same _ g 2 _ T c h2
  exact heap_setCell_same _ g 3 _ T d h3
theorem below4 {a w : World} {g : Nat} (h : Below a.heap.size a w) (hg : a.heap.size ≤ g) (x y z u : Value) : Below a.heap.size a ((((w.setCell ⟨g, 0, none⟩ x).setCell ⟨g, 1, none⟩ y).setCell ⟨g, 2, none⟩ z).setCell ⟨g, 3, none⟩ u) :=
  (((h.setCell hg x).setCell hg y).setCell hg z).setCell hg u

section
variable {P : Program} {C : World → Prop} {a : Act} {o : Oper}
theorem quiet_pure {K : Act → Prop} (v : Value) (h : ∀ w, C w → (execOp a.eval o).run P w = .ok (.value v) w) (hk : K (a.put o.dst v)) : o.quiet P a C K :=
  ⟨v, fun w hC => by unfold Oper.quietAt; rw [h w hC]; exact ⟨rfl, rfl⟩, hk⟩
theorem region_quiet_C {id : Nat} {Q : Exit → Act → World → Prop} {w : World} {l : List Oper} (hm : P.follows .mixedOrders = true) (hB : Region.lexB .any l.toArray = true) (hC : C { w with drawn := w.drawn + 1 })
    (h : wpQuiet P l.toArray C (fun a' => ∀ w', C w' → Q .normal a' w') l a) : (Code.region id l.toArray true).wp P Q a w :=
  wp_region_quiet (C := C) hm hB hC (by simpa using h)
theorem quiet_calls {K : Act → Prop} (f : FuncId) (args : Array Value) (v : Value) (h : ∀ w, C w → (execOp a.eval o).run P w = .ok (.enter f args) w) (hc : ∀ w, C w → Calls P f args w fun e w'' => e = .returned v ∧ C w'') (hk : K (a.put o.dst v)) : o.quiet P a C K :=
  ⟨v, fun w hC => by unfold Oper.quietAt; rw [h w hC]; exact ⟨rfl, hc w hC⟩, hk⟩
end

theorem okT_lt {t : ByteArray} (h : t.size < 22) : okT t = false := by unfold okT; simp; omega
theorem okT_no0 {t : ByteArray} (h : G t 0 4 ≠ 101010256) : okT t = false := by unfold okT; simp [h]
theorem okT_no4 {t : ByteArray} (h : G t 4 2 ≠ 0) : okT t = false := by unfold okT; simp [h]
theorem okT_no6 {t : ByteArray} (h : G t 6 2 ≠ 0) : okT t = false := by unfold okT; simp [h]

/-- What is known behind the first eight bytes. -/
structure Known (t : ByteArray) (K : Bool) (p : Nat) (bad : Bool) : Prop where
  le : p ≤ t.size
  no : K = false → okT t = false
  yes : K = true → bad = false → p = 8 ∧ G t 0 4 = 101010256 ∧ G t 4 2 = 0 ∧ G t 6 2 = 0
  ill : K = true → bad = true → okT t = false

/-- What is known at the end. -/
structure Fin_ (t : ByteArray) (K : Bool) (q : Nat) (bad : Bool) (v4 v5 v6 v7 v8 : Int) : Prop where
  ill : bad = true → okT t = false
  no : K = false → okT t = false
  ne : bad = false → K = true → v4 ≠ v5 → okT t = false
  wrong : bad = false → K = true → rightB v6 v7 = false → okT t = false
  rest : bad = false → K = true → (t.size : Int) - q ≠ v8 → okT t = false
  yes : bad = false → K = true → v4 = v5 → rightB v6 v7 = true → (t.size : Int) - q = v8 → okT t = true ∧ valT t = endV v4 v6 v7 v8
theorem fin_ {t : ByteArray} {K : Bool} {p q4 q5 q6 q7 q8 : Nat} {bad b4 b5 b6 b7 b8 : Bool} {v4 v5 v6 v7 v8 : Int} (hk : Known t K p bad)
    (h4 : b4 = false → q4 = p + 2 ∧ v4 = G t p 2) (h5 : b5 = false → q5 = q4 + 2 ∧ v5 = G t q4 2) (h6 : b6 = false → q6 = q5 + 4 ∧ v6 = G t q5 4) (h7 : b7 = false → q7 = q6 + 4 ∧ v7 = G t q6 4) (h8 : b8 = false → q8 = q7 + 2 ∧ v8 = G t q7 2)
    (c4 : b4 = false ↔ bad = false ∧ p + 2 ≤ t.size) (c5 : b5 = false ↔ b4 = false ∧ q4 + 2 ≤ t.size) (c6 : b6 = false ↔ b5 = false ∧ q5 + 4 ≤ t.size) (c7 : b7 = false ↔ b6 = false ∧ q6 + 4 ≤ t.size) (c8 : b8 = false ↔ b7 = false ∧ q7 + 2 ≤ t.size) :
    Fin_ t K q8 b8 v4 v5 v6 v7 v8 := by
  have all : b8 = false → K = true → 22 ≤ t.size ∧ q8 = 22 ∧ G t 0 4 = 101010256 ∧ G t 4 2 = 0 ∧ G t 6 2 = 0 ∧ v4 = G t 8 2 ∧ v5 = G t 10 2 ∧ v6 = G t 12 4 ∧ v7 = G t 16 4 ∧ v8 = G t 20 2 := by
    intro h hK
    have y7 := c8.1 h
    have y6 := c7.1 y7.1
    have y5 := c6.1 y6.1
    have y4 := c5.1 y5.1
    have y3 := c4.1 y4.1
    obtain ⟨rfl, k1, k2, k3⟩ := hk.yes hK y3.1
    obtain ⟨rfl, z4⟩ := h4 y4.1
    obtain ⟨rfl, z5⟩ := h5 y5.1
    obtain ⟨rfl, z6⟩ := h6 y6.1
    obtain ⟨rfl, z7⟩ := h7 y7.1
    obtain ⟨rfl, z8⟩ := h8 h
    exact ⟨by omega, rfl, k1, k2, k3, z4, z5, z6, z7, z8⟩
  refine ⟨fun h => ?_, hk.no, fun h hK hn => ?_, fun h hK hn => ?_, fun h hK hn => ?_, fun h hK e1 e2 e3 => ?_⟩
  · cases hK : K with
    | false => exact hk.no hK
    | true =>
      cases hb : bad with
      | true => exact hk.ill hK hb
      | false =>
        by_cases hz : 22 ≤ t.size
        · obtain ⟨rfl, _⟩ := hk.yes hK hb
          have y4 := c4.2 ⟨hb, by omega⟩
          obtain ⟨rfl, _⟩ := h4 y4
          have y5 := c5.2 ⟨y4, by omega⟩
          obtain ⟨rfl, _⟩ := h5 y5
          have y6 := c6.2 ⟨y5, by omega⟩
          obtain ⟨rfl, _⟩ := h6 y6
          have y7 := c7.2 ⟨y6, by omega⟩
          obtain ⟨rfl, _⟩ := h7 y7
          have y8 := c8.2 ⟨y7, by omega⟩
          rw [h] at y8
          cases y8
        · exact okT_lt (by omega)
  · obtain ⟨a0, a1, a2, a3, a4, a5, a6, a7, a8, a9⟩ := all h hK
    unfold okT
    rw [decide_eq_false_iff_not]
    rintro ⟨_, _, _, _, h1, _⟩
    exact hn (by rw [a5, a6]; exact h1)
  · obtain ⟨a0, a1, a2, a3, a4, a5, a6, a7, a8, a9⟩ := all h hK
    unfold okT
    rw [decide_eq_false_iff_not]
    rintro ⟨_, _, _, _, _, h1, _⟩
    rw [a7, a8, h1] at hn
    cases hn
  · obtain ⟨a0, a1, a2, a3, a4, a5, a6, a7, a8, a9⟩ := all h hK
    unfold okT
    rw [decide_eq_false_iff_not]
    rintro ⟨_, _, _, _, _, _, h1⟩
    omega
  · obtain ⟨a0, a1, a2, a3, a4, a5, a6, a7, a8, a9⟩ := all h hK
    have hok : okT t = true := by
      unfold okT
      rw [decide_eq_true_iff]
      exact ⟨a0, a2, a3, a4, by rw [← a5, ← a6]; exact e1, by rw [← a7, ← a8]; exact e2, by omega⟩
    exact ⟨hok, by rw [valT_yes hok, ← a5, ← a7, ← a8, ← a9]⟩

theorem fin_val {t : ByteArray} {K : Bool} {p q4 q5 q6 q7 q8 : Nat} {bad b4 b5 b6 b7 b8 : Bool} {v4 v5 v6 v7 v8 : Int} (hk : Known t K p bad)
    (h4 : b4 = false → q4 = p + 2 ∧ v4 = G t p 2) (h5 : b5 = false → q5 = q4 + 2 ∧ v5 = G t q4 2) (h6 : b6 = false → q6 = q5 + 4 ∧ v6 = G t q5 4) (h7 : b7 = false → q7 = q6 + 4 ∧ v7 = G t q6 4) (h8 : b8 = false → q8 = q7 + 2 ∧ v8 = G t q7 2)
    (c4 : b4 = false ↔ bad = false ∧ p + 2 ≤ t.size) (c5 : b5 = false ↔ b4 = false ∧ q4 + 2 ≤ t.size) (c6 : b6 = false ↔ b5 = false ∧ q5 + 4 ≤ t.size) (c7 : b7 = false ↔ b6 = false ∧ q6 + 4 ≤ t.size) (c8 : b8 = false ↔ b7 = false ∧ q7 + 2 ≤ t.size)
    (hok : okT t = true) : valT t = endV v4 v6 v7 v8 := by
  have F := fin_ hk h4 h5 h6 h7 h8 c4 c5 c6 c7 c8
  have hb : b8 = false := by
    cases h : b8 with
    | false => rfl
    | true => rw [F.ill h] at hok; cases hok
  have hK : K = true := by
    cases h : K with
    | true => rfl
    | false => rw [F.no h] at hok; cases hok
  refine (F.yes hb hK ?_ ?_ ?_).2
  · refine Classical.byContradiction fun h => ?_
    rw [F.ne hb hK h] at hok
    cases hok
  · cases h : rightB v6 v7 with
    | true => rfl
    | false => rw [F.wrong hb hK h] at hok; cases hok
  · refine Classical.byContradiction fun h => ?_
    rw [F.rest hb hK h] at hok
    cases hok

theorem num2 (g : Nat) (s : ByteArray) (p : Nat) (bad : Bool) (w : World) (h : Rd w g 125 s p bad) (hp : p ≤ s.size) (hs : s.size ≤ 9223372036854775807) :
    Calls Try.prog 79 #[.pointer (some ⟨g, 0, none⟩), .int .i64 2] w fun e w' => ∃ (v : Int) (q : Nat) (b : Bool), e = .returned (.int .u64 v) ∧ 0 ≤ v ∧ v ≤ 65535 ∧ q ≤ s.size ∧ Fld.Left w g 125 s q b w' ∧
      (b = false ↔ bad = false ∧ p + 2 ≤ s.size) ∧ (b = false → q = p + 2 ∧ v = G s p 2) := by
  refine (num_some g s p bad 2 w h hp hs (by omega)).mono ?_
  rintro e w' ⟨v, q, b, h1, h2, h3, h4⟩
  exact ⟨v, q, b, h1, h2, by simp at h3; omega, h4⟩
theorem num4 (g : Nat) (s : ByteArray) (p : Nat) (bad : Bool) (w : World) (h : Rd w g 125 s p bad) (hp : p ≤ s.size) (hs : s.size ≤ 9223372036854775807) :
    Calls Try.prog 79 #[.pointer (some ⟨g, 0, none⟩), .int .i64 4] w fun e w' => ∃ (v : Int) (q : Nat) (b : Bool), e = .returned (.int .u64 v) ∧ 0 ≤ v ∧ v ≤ 4294967295 ∧ q ≤ s.size ∧ Fld.Left w g 125 s q b w' ∧
      (b = false ↔ bad = false ∧ p + 4 ≤ s.size) ∧ (b = false → q = p + 4 ∧ v = G s p 4) := by
  refine (num_some g s p bad 4 w h hp hs (by omega)).mono ?_
  rintro e w' ⟨v, q, b, h1, h2, h3, h4⟩
  exact ⟨v, q, b, h1, h2, by simp at h3; omega, h4⟩

set_option maxRecDepth 100000 in
set_option maxHeartbeats 2000000 in
theorem read_at (s t : ByteArray) (A : Nat) (w : World) (hA : A ≤ s.size) (hs : s.size ≤ 9223372036854775807) (ht : s.extract A s.size = t) :
    Calls Try.prog 49 #[.string s, .int .i64 (A : Int)] w fun e w' => e = .returned (.tuple #[valT t, .bool (okT t)]) ∧ Below w.heap.size w w' := by
  have hz : t.size = s.size - A := by rw [← ht]; simp [ByteArray.size_extract]
  have HS := hid (show t.size ≤ 9223372036854775807 by omega)
  have HT := hid ht
  clear ht hz
  go_enter Try.func49, Try.ntmps49
  go_upto_region 4 with (go_at_call 78; refine (read _ _).mono ?_; rintro e w1 ⟨rfl, rfl⟩)
  rw [HT.out]
  have HN := hid (st_new w t)
  obtain ⟨W1, hW1⟩ : ∃ W1, (w.alloc (.cells #[.int .i64 0, .int .i64 0, .int .i64 0, .int .i64 0] 72)).alloc (.cells #[.string t, .int .i64 0, .bool false] 125) = W1 := ⟨_, rfl⟩
  rw [hW1] at HN
  have H0 := hid (show w.heap.size + 1 = w.heap.size + 1 from rfl)
  simp only [World.size_alloc, hW1]
  clear hW1
  go_cut [7] (fun k wx => ∃ (K : Bool) (p : Nat) (bad : Bool), k = .bool K ∧ St w wx t p bad ∧ Known t K p bad)
  case first =>
    go_wp2_with fail
    refine (num4 _ t 0 false _ HN.out.rd (by omega) HS.out).mono ?_
    rintro e w1 ⟨v1, q1, b1, rfl, l1, u1, hq1, hl1, hb1, hv1⟩
    have S1 := hid (HN.out.next hl1)
    have V1 := hid hv1
    have B1 := hid hb1
    have Q1 := hid hq1
    clear hl1 hv1 hb1 hq1
    by_cases c1 : v1 = 101010256
    · have e1 : (v1 == 101010256) = true := by simp [c1]
      have C1 := hid c1
      clear c1
      go_wp2_with fail
      refine (num2 _ t q1 b1 _ S1.out.rd Q1.out HS.out).mono ?_
      rintro e w2 ⟨v2, q2, b2, rfl, l2, u2, hq2, hl2, hb2, hv2⟩
      have S2 := hid (S1.out.next hl2)
      have V2 := hid hv2
      have B2 := hid hb2
      have Q2 := hid hq2
      clear hl2 hv2 hb2 hq2
      by_cases c2 : v2 = 0
      · have e2 : (v2 == 0) = true := by simp [c2]
        go_wp2_with fail
        refine (num2 _ t q2 b2 _ S2.out.rd Q2.out HS.out).mono ?_
        rintro e w3 ⟨v3, q3, b3, rfl, l3, u3, hq3, hl3, hb3, hv3⟩
        have S3 := hid (S2.out.next hl3)
        have V3 := hid hv3
        have B3 := hid hb3
        have Q3 := hid hq3
        clear hl3 hv3 hb3 hq3
        by_cases c3 : v3 = 0
        · have e3 : (v3 == 0) = true := by simp [c3]
          have KN := hid (show Known t true q3 b3 by
            refine ⟨Q3.out, fun h => (by cases h), fun _ hb => ?_, fun _ hb => ?_⟩
            · have hb2 := (B3.out.1 hb).1
              have hb1 := (B2.out.1 hb2).1
              have x1 := V1.out hb1
              have x2 := V2.out hb2
              have x3 := V3.out hb
              refine ⟨by omega, by rw [← C1.out, x1.2], ?_, ?_⟩
              · have : G t 4 2 = v2 := by rw [x2.2, x1.1]
                rw [this, c2]
              · have : G t 6 2 = v3 := by rw [x3.2, x2.1, x1.1]
                rw [this, c3]
            · by_cases h : 22 ≤ t.size
              · have y1 : b1 = false := B1.out.2 ⟨by simp, by omega⟩
                have x1 := V1.out y1
                have y2 : b2 = false := B2.out.2 ⟨y1, by omega⟩
                have x2 := V2.out y2
                have y3 : b3 = false := B3.out.2 ⟨y2, by omega⟩
                rw [hb] at y3
                cases y3
              · exact okT_lt (by omega))
          clear c2 c3
          go_wp2_with fail
          go_meet
          exact ⟨true, q3, b3, rfl, S3.out, KN.out⟩
        · have e3 : (v3 == 0) = false := by simp [c3]
          have O3 := hid (show okT t = false by
            by_cases h : 22 ≤ t.size
            · have y1 : b1 = false := B1.out.2 ⟨by simp, by omega⟩
              have x1 := V1.out y1
              have y2 : b2 = false := B2.out.2 ⟨y1, by omega⟩
              have x2 := V2.out y2
              have y3 : b3 = false := B3.out.2 ⟨y2, by omega⟩
              have x3 := V3.out y3
              refine okT_no6 ?_
              have : G t 6 2 = v3 := by rw [x3.2, x2.1, x1.1]
              rw [this]; exact c3
            · exact okT_lt (by omega))
          clear c2 c3
          go_wp2_with fail
          go_meet
          exact ⟨false, q3, b3, rfl, S3.out, Q3.out, fun _ => O3.out, fun h => (by cases h), fun h => (by cases h)⟩
      · have e2 : (v2 == 0) = false := by simp [c2]
        have O2 := hid (show okT t = false by
          by_cases h : 22 ≤ t.size
          · have y1 : b1 = false := B1.out.2 ⟨by simp, by omega⟩
            have x1 := V1.out y1
            have y2 : b2 = false := B2.out.2 ⟨y1, by omega⟩
            have x2 := V2.out y2
            refine okT_no4 ?_
            have : G t 4 2 = v2 := by rw [x2.2, x1.1]
            rw [this]; exact c2
          · exact okT_lt (by omega))
        clear c2
        go_wp2_with fail
        go_meet
        exact ⟨false, q2, b2, rfl, S2.out, Q2.out, fun _ => O2.out, fun h => (by cases h), fun h => (by cases h)⟩
    · have e1 : (v1 == 101010256) = false := by simp [c1]
      have O1 := hid (show okT t = false by
        by_cases h : 22 ≤ t.size
        · have hb : b1 = false := B1.out.2 ⟨by simp, by omega⟩
          exact okT_no0 (by rw [← (V1.out hb).2]; exact c1)
        · exact okT_lt (by omega))
      clear c1
      go_wp2_with fail
      go_meet
      exact ⟨false, q1, b1, rfl, S1.out, Q1.out, fun _ => O1.out, fun h => (by cases h), fun h => (by cases h)⟩
  case rest =>
    obtain ⟨K, p, bad, rfl, hst, hkn⟩ := hcut
    have S3 := hid hst
    have KN := hid hkn
    have Q3 := hid hkn.le
    clear hst hkn HN
    go_wp2_with fail
    refine (num2 _ t p bad _ S3.out.rd Q3.out HS.out).mono ?_
    rintro e w4 ⟨v4, q4, b4, rfl, l4, u4, hq4, hl4, hb4, hv4⟩
    have S4 := hid (S3.out.next hl4)
    have V4 := hid hv4
    have B4 := hid hb4
    have Q4 := hid hq4
    clear hl4 hv4 hb4 hq4
    go_wp2_with fail
    refine (num2 _ t q4 b4 _ S4.out.rd Q4.out HS.out).mono ?_
    rintro e w5 ⟨v5, q5, b5, rfl, l5, u5, hq5, hl5, hb5, hv5⟩
    have S5 := hid (S4.out.next hl5)
    have V5 := hid hv5
    have B5 := hid hb5
    have Q5 := hid hq5
    clear hl5 hv5 hb5 hq5
    go_wp2_with fail
    refine (num4 _ t q5 b5 _ S5.out.rd Q5.out HS.out).mono ?_
    rintro e w6 ⟨v6, q6, b6, rfl, l6, u6, hq6, hl6, hb6, hv6⟩
    have S6 := hid (S5.out.next hl6)
    have V6 := hid hv6
    have B6 := hid hb6
    have Q6 := hid hq6
    clear hl6 hv6 hb6 hq6
    go_wp2_with fail
    refine (num4 _ t q6 b6 _ S6.out.rd Q6.out HS.out).mono ?_
    rintro e w7 ⟨v7, q7, b7, rfl, l7, u7, hq7, hl7, hb7, hv7⟩
    have S7 := hid (S6.out.next hl7)
    have V7 := hid hv7
    have B7 := hid hb7
    have Q7 := hid hq7
    clear hl7 hv7 hb7 hq7
    go_wp2_with fail
    refine (num2 _ t q7 b7 _ S7.out.rd Q7.out HS.out).mono ?_
    rintro e w8 ⟨v8, q8, b8, rfl, l8, u8, hq8, hl8, hb8, hv8⟩
    have S8 := hid (S7.out.next hl8)
    have V8 := hid hv8
    have B8 := hid hb8
    have Q8 := hid hq8
    clear hl8 hv8 hb8 hq8
    go_upto_region 7 with fail
    have hcel := heap_alloc_new w8 (.cells #[.int .i64 v4, .int .i64 v6, .int .i64 v7, .int .i64 v8] 72)
    have S9 := hid (S8.out.alloc (.cells #[.int .i64 v4, .int .i64 v6, .int .i64 v7, .int .i64 v8] 72))
    have HCE := hid hcel
    have HLT := hid (show w.heap.size + 1 < w8.heap.size from S8.out.rd.lt)
    have FF := hid (fin_ KN.out V4.out V5.out V6.out V7.out V8.out B4.out B5.out B6.out B7.out B8.out)
    have VAL := hid (fun h => fin_val KN.out V4.out V5.out V6.out V7.out V8.out B4.out B5.out B6.out B7.out B8.out h)
    generalize w8.alloc (.cells #[.int .i64 v4, .int .i64 v6, .int .i64 v7, .int .i64 v8] 72) = W9 at HCE S9 ⊢
    clear hcel V4 V5 V6 V7 V8 B4 B5 B6 B7 B8 S3 S4 S5 S6 S7 S8 KN
    generalize w8.heap.size = E at HCE HLT ⊢
    go_cut [76] (fun f wx => f = .bool (!okT t) ∧ wx.heap[E]? = some (.cells #[.int .i64 v4, .int .i64 v6, .int .i64 v7, .int .i64 v8] 72 (0, 0)) ∧ St w wx t q8 b8)
    case first =>
      cases b8 with
      | true =>
        have FN := hid (fun n => (fine _ _ _ _ (W9.drewN n) (S9.out.drewN n).rd).mono fun e w' h => (⟨h.1, h.2.symm⟩ : e = .returned (.bool false) ∧ w' = W9.drewN n))
        go_quiet ((go_at_call 80; exact Calls.quiet_of_same (FN.out _)))
        go_wp2_with fail
        go_meet
        exact ⟨by rw [FF.out.ill rfl]; rfl, HCE.out, S9.out.drewN _⟩
      | false =>
        have FN := hid (fun n => (fine _ _ _ _ (W9.drewN n) (S9.out.drewN n).rd).mono fun e w' h => (⟨h.1, h.2.symm⟩ : e = .returned (.bool true) ∧ w' = W9.drewN n))
        cases K with
        | false =>
          go_quiet ((go_at_call 80; exact Calls.quiet_of_same (FN.out _)))
          go_wp2_with fail
          go_meet
          exact ⟨by rw [FF.out.no rfl]; rfl, HCE.out, S9.out.drewN _⟩
        | true =>
          by_cases c5 : v4 = v5
          · have e5 : (v4 == v5) = true := by simp [c5]
            have e5' : (v4 != v5) = false := by simp [c5]
            have C5 := hid c5
            have cel : ∀ k v, (#[Value.int .i64 v4, .int .i64 v6, .int .i64 v7, .int .i64 v8] : Array Value)[k]? = some v → W9.cell? ⟨E, k, none⟩ = some v := fun k v h => by rw [cell_of_row _ _ _ _ _ _ HCE.out]; exact h
            have d0 := cel 0 _ rfl
            have d1 := cel 1 _ rfl
            have d2 := cel 2 _ rfl
            have d3 := cel 3 _ rfl
            have RR := hid (fun W => right v4 v6 v7 v8 W l4 u4 l6 l7 l8 u8)
            clear c5 cel
            cases hrb : rightB v6 v7 with
            | false =>
              have HRB := hid hrb
              rw [hrb] at RR
              clear hrb
              refine region_quiet_C (C := fun w' => (w'.cell? ⟨E, 0, none⟩ = some (.int .i64 v4) ∧ w'.cell? ⟨E, 1, none⟩ = some (.int .i64 v6) ∧ w'.cell? ⟨E, 2, none⟩ = some (.int .i64 v7) ∧ w'.cell? ⟨E, 3, none⟩ = some (.int .i64 v8)) ∧
                w'.heap[E]? = some (.cells #[.int .i64 v4, .int .i64 v6, .int .i64 v7, .int .i64 v8] 72 (0, 0)) ∧ St w w' t q8 false) (by kernel_rfl) (by kernel_rfl) ⟨⟨d0, d1, d2, d3⟩, HCE.out, S9.out.drewN 1⟩ ?_
              clear d0 d1 d2 d3
              have FC := hid (fun w' (h : St w w' t q8 false) => fine _ _ _ _ w' h.rd)
              go_big_quiet_want
              go_big_quiet_op
              go_big_quiet_on
              go_big_quiet_want
              refine quiet_calls 80 #[.pointer (some ⟨w.heap.size + 1, 0, none⟩)] (.bool true) (fun w' hC => ?_) (fun w' hC => ?_) ?_
              · go_simp
              · exact (FC.out w' hC.2.2).mono fun e w1 h => ⟨h.1, h.2 ▸ hC⟩
              simp only [Act.put, List.setIfInBounds_toArray, List.set_cons_zero, List.set_cons_succ]
              go_big_quiet_on
              repeat (first
                | go_big_quiet_skip
                | (go_big_quiet_want; go_big_quiet_op; go_big_quiet_on)
                | (go_big_quiet_want; refine quiet_pure ?_ (fun w' hC => ?_) ?_; rotate_left; (focus (obtain ⟨⟨c0, c1, c2, c3⟩, hr⟩ := hC; clear hr; go_simp; (try with_reducible rfl); done)); (simp only [Act.put, List.setIfInBounds_toArray, List.set_cons_zero, List.set_cons_succ]); go_big_quiet_on))
              go_big_quiet_want
              refine quiet_calls 81 #[endV v4 v6 v7 v8] (.bool false) (fun w' hC => ?_) (fun w' hC => ?_) ?_
              · go_simp
              · exact (RR.out w').mono fun e w1 h => ⟨h.1, four_cells h.2 hC.2.1, (h.2.block _ (Array.getElem?_eq_some_iff.1 hC.2.1).1).trans hC.2.1, hC.2.2.step h.2⟩
              simp only [Act.put, List.setIfInBounds_toArray, List.set_cons_zero, List.set_cons_succ]
              go_big_quiet_on
              repeat (first
                | go_big_quiet_skip
                | (go_big_quiet_want; go_big_quiet_op; go_big_quiet_on)
                | (go_big_quiet_want; refine quiet_pure ?_ (fun w' hC => ?_) ?_; rotate_left; (focus (obtain ⟨⟨c0, c1, c2, c3⟩, hr⟩ := hC; clear hr; go_simp; (try with_reducible rfl); done)); (simp only [Act.put, List.setIfInBounds_toArray, List.set_cons_zero, List.set_cons_succ]); go_big_quiet_on))
              refine wpQuiet_nil ?_
              intro w2 hC
              have HC := hid hC
              clear hC
              go_wp2_with fail
              go_meet
              exact ⟨by rw [FF.out.wrong rfl rfl HRB.out]; rfl, HC.out.2.1, HC.out.2.2⟩
            | true =>
              have HRB := hid hrb
              rw [hrb] at RR
              clear hrb
              by_cases c6 : (t.size : Int) - q8 = v8
              · have e6 : ((t.size : Int) - q8 != v8) = false := by simp [c6]
                have e6' : ((t.size : Int) - q8 == v8) = true := by simp [c6]
                have O6 := hid (FF.out.yes rfl rfl C5.out HRB.out c6)
                clear c6
                go_region_held3 (fun w' => w'.cell? ⟨E, 0, none⟩ = some (.int .i64 v4) ∧ w'.cell? ⟨E, 1, none⟩ = some (.int .i64 v6) ∧ w'.cell? ⟨E, 2, none⟩ = some (.int .i64 v7) ∧ w'.cell? ⟨E, 3, none⟩ = some (.int .i64 v8)) (first | exact ⟨d0, d1, d2, d3⟩ | exact HD.out | go_keep)
                  (first
                    | (go_at_call 80; refine (fine _ _ _ _ W9.drew (S9.out.drewN 1).rd).mono ?_; rintro e w1 ⟨rfl, rfl⟩)
                    | (go_at_call 81; refine (RR.out W9.drew).mono ?_; rintro e w2 ⟨rfl, hb2⟩; have H2 := hid hb2; have S10 := hid ((S9.out.drewN 1).step hb2); have HD := hid (four_cells hb2 HCE.out); clear hb2)
                    | (go_at_call 82; refine (left _ _ _ _ w2 S10.out.rd Q8.out HS.out).mono ?_; rintro e w3 ⟨n3, rfl, rfl⟩))
                go_wp2_with fail
                go_meet
                exact ⟨by rw [O6.out.1]; rfl, (H2.out.block _ (Array.getElem?_eq_some_iff.1 HCE.out).1).trans HCE.out, S10.out.drewN _⟩
              · have e6 : ((t.size : Int) - q8 != v8) = true := by simp [c6]
                have e6' : ((t.size : Int) - q8 == v8) = false := by simp [c6]
                have O6 := hid (FF.out.rest rfl rfl c6)
                clear c6
                go_region_held3 (fun w' => w'.cell? ⟨E, 0, none⟩ = some (.int .i64 v4) ∧ w'.cell? ⟨E, 1, none⟩ = some (.int .i64 v6) ∧ w'.cell? ⟨E, 2, none⟩ = some (.int .i64 v7) ∧ w'.cell? ⟨E, 3, none⟩ = some (.int .i64 v8)) (first | exact ⟨d0, d1, d2, d3⟩ | exact HD.out | go_keep)
                  (first
                    | (go_at_call 80; refine (fine _ _ _ _ W9.drew (S9.out.drewN 1).rd).mono ?_; rintro e w1 ⟨rfl, rfl⟩)
                    | (go_at_call 81; refine (RR.out W9.drew).mono ?_; rintro e w2 ⟨rfl, hb2⟩; have H2 := hid hb2; have S10 := hid ((S9.out.drewN 1).step hb2); have HD := hid (four_cells hb2 HCE.out); clear hb2)
                    | (go_at_call 82; refine (left _ _ _ _ w2 S10.out.rd Q8.out HS.out).mono ?_; rintro e w3 ⟨n3, rfl, rfl⟩))
                go_wp2_with fail
                go_meet
                exact ⟨by rw [O6.out]; rfl, (H2.out.block _ (Array.getElem?_eq_some_iff.1 HCE.out).1).trans HCE.out, S10.out.drewN _⟩
          · have e5 : (v4 == v5) = false := by simp [c5]
            have e5' : (v4 != v5) = true := by simp [c5]
            have O5 := hid (FF.out.ne rfl rfl c5)
            clear c5
            go_quiet ((go_at_call 80; exact Calls.quiet_of_same (FN.out _)))
            go_wp2_with fail
            go_meet
            exact ⟨by rw [O5.out]; rfl, HCE.out, S9.out.drewN _⟩
    case rest =>
      obtain ⟨rfl, hce, hst⟩ := hcut
      have HC2 := hid hce
      have S11 := hid hst
      have ce : ∀ k v, (#[Value.int .i64 v4, .int .i64 v6, .int .i64 v7, .int .i64 v8] : Array Value)[k]? = some v → wc.cell? ⟨E, k, none⟩ = some v := fun k v h => by rw [cell_of_row _ _ _ _ _ _ HC2.out]; exact h
      have d0 := ce 0 _ rfl
      have d1 := ce 1 _ rfl
      have d2 := ce 2 _ rfl
      have d3 := ce 3 _ rfl
      have re : ∀ k v, (#[Value.int .i64 0, .int .i64 0, .int .i64 0, .int .i64 0] : Array Value)[k]? = some v → wc.cell? ⟨w.heap.size, k, none⟩ = some v := fun k v h => by rw [cell_of_row _ _ _ _ _ _ S11.out.res]; exact h
      have r0 := re 0 _ rfl
      have r1 := re 1 _ rfl
      have r2 := re 2 _ rfl
      have r3 := re 3 _ rfl
      have f0 := frozen_of_row wc w.heap.size 0 _ _ S11.out.res
      have f1 := frozen_of_row wc w.heap.size 1 _ _ S11.out.res
      have f2 := frozen_of_row wc w.heap.size 2 _ _ S11.out.res
      have f3 := frozen_of_row wc w.heap.size 3 _ _ S11.out.res
      simp only [List.getElem_toArray, List.getElem_cons_zero, List.getElem_cons_succ] at d0 d1 d2 d3 r0 r1 r2 r3
      clear hce hst HCE S9 ce re
      cases hok : okT t with
      | false =>
        have HOK := hid hok
        clear hok d0 d1 d2 d3
        go_wp2_with fail
        exact bodyPost_ret (results_cell_tmp (fn := Try.f49) Try.results49 _ _ w.heap.size 72 _ (0, 0) _ rfl (.bool false) rfl (row4 S11.out.res _ _ _ _) Try.underlying72 rfl size72) rfl
          ⟨by rw [valT_no HOK.out, HOK.out], below4 S11.out.below (Nat.le_refl _) _ _ _ _⟩
      | true =>
        have HOK := hid hok
        clear hok
        go_wp2_with fail
        exact bodyPost_ret (results_cell_tmp (fn := Try.f49) Try.results49 _ _ w.heap.size 72 _ (0, 0) _ rfl (.bool true) rfl (row4 S11.out.res _ _ _ _) Try.underlying72 rfl size72) rfl
          ⟨by rw [VAL.out HOK.out, HOK.out], below4 S11.out.below (Nat.le_refl _) _ _ _ _⟩
end Edg
end Go.Proofs.Ythgjijjalfhhcaa
