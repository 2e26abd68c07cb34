/- For any time, any parts, and any two numbers: the time's parts, the parts' time, and how many days that month of that year has, are the document's. No condition. -/
import Derived.Test.YtbcbimlcjcaegaaDoorEnd
import Derived.Test.YtbcbimlcjcaegaaDoorDosPA
import Derived.Test.YtbcbimlcjcaegaaDoorDosPB
import Derived.Test.YtbcbimlcjcaegaaDoorDosPC
import Derived.Test.YtbcbimlcjcaegaaDoorDosPD
import Derived.Deep.Slices
import Derived.Deep.Fields
namespace Go.Proofs.YtbcbimlcjcaegaaDoor
set_option linter.unusedVariables false
open Go.ChangeShapes Go.WideShapes Go.ChangeAt Go.WideElems Go.RowKit Go.Deep
open Go.Proofs.Dos
open Go.ChangeMaps (open_string shut_string)
namespace DosParts

theorem list6 {α : Type} {l : List α} (h : l.length = 6) : ∃ a b c d e f, l = [a, b, c, d, e, f] := by
  match l, h with
  | [a, b, c, d, e, f], _ => exact ⟨a, b, c, d, e, f, rfl⟩
theorem list2_ {α : Type} {l : List α} (h : l.length = 2) : ∃ a b, l = [a, b] := by
  match l, h with
  | [a, b], _ => exact ⟨a, b, rfl⟩

set_option maxRecDepth 100000 in
/-- An argument of six ints. -/
theorem open_six {H : Type} {enc : TypeId × Value → H} {P : Program} {w : World} {r : Reach} {b0 base : Nat} {sp : Nat → Bool} {held : Bool} {t : TypeId} {f0 f1 f2 f3 f4 f5 : Field} {v : Value} {d : DataW H} {p : List MemPlace}
    (he : P.underlying t = some (.struct #[f0, f1, f2, f3, f4, f5])) (hone : oneCellFields P #[f0, f1, f2, f3, f4, f5] = true) (hC : P.cellsOf t = 6)
    (u0 : P.underlying f0.type = some (.int .i64)) (u1 : P.underlying f1.type = some (.int .i64)) (u2 : P.underlying f2.type = some (.int .i64)) (u3 : P.underlying f3.type = some (.int .i64)) (u4 : P.underlying f4.type = some (.int .i64)) (u5 : P.underlying f5.type = some (.int .i64))
    (hv : Value.okWide P w r b0 t v) (h : DataW.Trod enc P w base sp held t v d p) : ∃ x : T, v = tV x ∧ Ints x := by
  simp only [Value.okWide, he] at hv
  obtain ⟨cs, rfl, hsz, _⟩ := hv
  rw [hC] at hsz
  obtain ⟨fuel, hf⟩ := h
  obtain ⟨xs, m, _, _, _, hn, hg⟩ := DataW.trod_struct he hf
  obtain ⟨l⟩ := cs
  obtain ⟨c0, c1, c2, c3, c4, c5, rfl⟩ := list6 (show l.length = 6 from hsz)
  obtain ⟨y0, y1, y2, y3, y4, y5, rfl⟩ := list6 (show xs.length = 6 from hn)
  obtain ⟨o0, k0⟩ := hone_of hone 0 f0 rfl
  obtain ⟨o1, k1⟩ := hone_of hone 1 f1 rfl
  obtain ⟨o2, k2⟩ := hone_of hone 2 f2 rfl
  obtain ⟨o3, k3⟩ := hone_of hone 3 f3 rfl
  obtain ⟨o4, k4⟩ := hone_of hone 4 f4 rfl
  obtain ⟨o5, k5⟩ := hone_of hone 5 f5 rfl
  have g0 := hg 0 f0 rfl
  have g1 := hg 1 f1 rfl
  have g2 := hg 2 f2 rfl
  have g3 := hg 3 f3 rfl
  have g4 := hg 4 f4 rfl
  have g5 := hg 5 f5 rfl
  rw [o0, k0] at g0
  rw [o1, k1] at g1
  rw [o2, k2] at g2
  rw [o3, k3] at g3
  rw [o4, k4] at g4
  rw [o5, k5] at g5
  obtain ⟨a0, e0, _, w0⟩ := DataW.trod_int u0 (show DataW.trod enc P w base sp held m f0.type [c0] = some y0 from g0)
  obtain ⟨a1, e1, _, w1⟩ := DataW.trod_int u1 (show DataW.trod enc P w base sp held m f1.type [c1] = some y1 from g1)
  obtain ⟨a2, e2, _, w2⟩ := DataW.trod_int u2 (show DataW.trod enc P w base sp held m f2.type [c2] = some y2 from g2)
  obtain ⟨a3, e3, _, w3⟩ := DataW.trod_int u3 (show DataW.trod enc P w base sp held m f3.type [c3] = some y3 from g3)
  obtain ⟨a4, e4, _, w4⟩ := DataW.trod_int u4 (show DataW.trod enc P w base sp held m f4.type [c4] = some y4 from g4)
  obtain ⟨a5, e5, _, w5⟩ := DataW.trod_int u5 (show DataW.trod enc P w base sp held m f5.type [c5] = some y5 from g5)
  simp only [List.cons.injEq, and_true] at e0 e1 e2 e3 e4 e5
  subst e0 e1 e2 e3 e4 e5
  have b0 := i64_bd w0
  have b1 := i64_bd w1
  have b2 := i64_bd w2
  have b3 := i64_bd w3
  have b4 := i64_bd w4
  have b5 := i64_bd w5
  exact ⟨⟨a0, a1, a2, a3, a4, a5⟩, rfl, ⟨b0.1, b0.2, b1.1, b1.2, b2.1, b2.2, b3.1, b3.2, b4.1, b4.2, b5.1, b5.2⟩⟩

set_option maxRecDepth 100000 in
/-- An argument of two ints. -/
theorem open_duo {H : Type} {enc : TypeId × Value → H} {P : Program} {w : World} {r : Reach} {b0 base : Nat} {sp : Nat → Bool} {held : Bool} {t e : TypeId} {v : Value} {d : DataW H} {p : List MemPlace}
    (he : P.underlying t = some (.array 2 e)) (ue : P.underlying e = some (.int .i64)) (hC : P.cellsOf t = 2) (hE : P.cellsOf e = 1)
    (hv : Value.okWide P w r b0 t v) (h : DataW.Trod enc P w base sp held t v d p) :
    ∃ m n : Int, v = .agg #[.int .i64 m, .int .i64 n] ∧ -9223372036854775808 ≤ m ∧ m ≤ 9223372036854775807 ∧ -9223372036854775808 ≤ n ∧ n ≤ 9223372036854775807 := by
  simp only [Value.okWide, he] at hv
  obtain ⟨cs, rfl, hsz, _⟩ := hv
  rw [hC] at hsz
  obtain ⟨fuel, hf⟩ := h
  obtain ⟨xs, m, rfl, _, _, hn, hel⟩ := DataW.trod_array he hf
  rw [hE] at hel
  obtain ⟨l⟩ := cs
  obtain ⟨c0, c1, rfl⟩ := list2_ (show l.length = 2 from hsz)
  have g0 := hel 0 (by decide)
  have g1 := hel 1 (by decide)
  obtain ⟨y0, y1, rfl⟩ := list2_ hn
  simp only [Value.cells] at g0 g1
  obtain ⟨a0, e0, _, w0⟩ := DataW.trod_int ue (show DataW.trod enc P w base sp held m e [c0] = some y0 from g0)
  obtain ⟨a1, e1, _, w1⟩ := DataW.trod_int ue (show DataW.trod enc P w base sp held m e [c1] = some y1 from g1)
  simp only [List.cons.injEq, and_true] at e0 e1
  subst e0 e1
  have b0 := i64_bd w0
  have b1 := i64_bd w1
  exact ⟨a0, a1, rfl, b0.1, b0.2, b1.1, b1.2⟩

theorem parts_walk (t : Int) (x : T) (p q : Int) (w : World) (hT : Tab w) (hP : Pow w) (h0 : 0 ≤ t) (h1 : t < 4294967296) (hx : Ints x)
    (hp0 : -9223372036854775808 ≤ p) (hp1 : p ≤ 9223372036854775807) (hq0 : -9223372036854775808 ≤ q) (hq1 : q ≤ 9223372036854775807) :
    Calls Tryd.prog 3 #[.int .u32 t, tV x, .agg #[.int .i64 p, .int .i64 q]] w fun e w' => e = .returned (.bool true) ∧ Below w.heap.size w w' := by
  cases hb : fitsB (splitI t)
  · cases hr : decide (RightT x)
    · exact parts_walk_0_0 t x p q w hT hP h0 h1 hx hp0 hp1 hq0 hq1 hb hr
    · exact parts_walk_0_1 t x p q w hT hP h0 h1 hx hp0 hp1 hq0 hq1 hb hr
  · cases hr : decide (RightT x)
    · exact parts_walk_1_0 t x p q w hT hP h0 h1 hx hp0 hp1 hq0 hq1 hb hr
    · exact parts_walk_1_1 t x p q w hT hP h0 h1 hx hp0 hp1 hq0 hq1 hb hr

set_option maxRecDepth 100000 in
theorem lifted (os : Os) (started : os.Started) (H : Type) (enc : TypeId × Value → H) :
    ReturnsInHanded {} Tryd.checked os 3 .any (fun w args => (Rows.dosPartsSpec.pre enc Tryd.prog Tryd.f3 [] false w args ∧ laidMetH Tryd.prog tables w) ∧ sizedMet enc Tryd.prog Tryd.f3 (OpenSpec.ofChange Rows.dosPartsSpec) false w args)
      (Rows.dosPartsSpec.post enc Tryd.prog Tryd.f3 false true false false) := by
  refine returnsInHanded_of_change_and (C := Tryd.checked) (X := fun w _ => laidMetH Tryd.prog tables w) (fun _ _ _ hh h => h.of_heap hh) own started (by kernel_rfl) Tryd.func3
    (ChangeSpec.witness_shaped (enc := enc) (C := Tryd.checked) (os := os) (X := fun w _ => laidMetH Tryd.prog tables w) false (World.doorLaid Tryd.prog 77 os) #[.int .u32 0, .agg #[.int .i64 0, .int .i64 0, .int .i64 0, .int .i64 0, .int .i64 0, .int .i64 0], .agg #[.int .i64 0, .int .i64 0]] 8 rfl (World.shaped_of_RefB (by kernel_rfl) (by kernel_rfl)) (by kernel_rfl) (by kernel_rfl) (by kernel_rfl) (door_met os _)) ?_
  intro W base args ds gs before hval0 hW _ _ hL _
  have hval : ∀ (j : Nat) t v, Tryd.f3.params[j]? = some t → args[j]? = some v → Value.okWide Tryd.prog W .any base t v := hval0
  have hW' := hW
  obtain ⟨p, q, hA0, hV, rfl, hfz, hnd⟩ := hW
  have hA : DataW.TrodAll enc Tryd.prog W 0 (fun _ => true) true Tryd.f3.params.toList args.toList ds p := hA0
  rw [Tryd.params3] at hA hval
  obtain ⟨v0, v1, v2, d0, d1, d2, p0, p1, p2, rfl, rfl, rfl, h0, h1, h2⟩ := trodAll_three hA
  obtain ⟨a0, rfl, rfl, rfl, w0⟩ := open_int Tryd.underlying22 (hval 0 22 v0 rfl rfl) h0
  obtain ⟨x, rfl, hx⟩ := open_six Tryd.underlying24 (by kernel_rfl) (by kernel_rfl) Tryd.underlying3 Tryd.underlying3 Tryd.underlying3 Tryd.underlying3 Tryd.underlying3 Tryd.underlying3 (hval 1 24 v1 rfl rfl) h1
  obtain ⟨m, n, rfl, m0, m1, n0, n1⟩ := open_duo Tryd.underlying25 Tryd.underlying3 (by kernel_rfl) (by kernel_rfl) (hval 2 25 v2 rfl rfl) h2
  obtain ⟨b0, b1⟩ := u32_bd w0
  refine (parts_walk a0 x m n W (tab_of hL) (pow_of hL) b0 b1 hx m0 m1 n0 n1).mono fun e W' ⟨he, bel⟩ => ?_
  subst he
  exact ⟨_, rfl, law_post Tryd.f3 Rows.dosPartsSpec rfl (by kernel_rfl) rfl hW' (fun h => by subst h; exact ⟨rfl, rfl, rfl⟩) bel⟩

theorem said : Rows.DosPartsSaid :=
  OpenClaim.holds_of_wide 3 Tryd.f3 rfl rfl rfl rfl rfl rfl rfl ⟨rfl, rfl, rfl, rfl, rfl⟩ rfl rfl rfl rfl rfl (by kernel_rfl) Tryd.func3 (by kernel_rfl)
    (of_decide_eq_true (by kernel_rfl)) (by unfold Func.isWrapper; first | (rw [if_pos (by decide +kernel)]; kernel_rfl) | (rw [if_neg (by decide +kernel)]; exact ⟨rfl, rfl⟩))
    (fun os started H enc _ => lifted os started H enc)

theorem proved : Rows.DosPartsCardSaid :=
  Claim7.holds_tied_plain_at .later [] [.data, .data, .data, .data] true (true, "182db3c6209ecef109a8c9e2a5d3114666863a050b45944d40beb2dfadfeec83") true
    said (fun _ h => by cases h) (by kernel_rfl) (fun _ h => by cases h) dosParts_row_tie rfl ⟨rfl, rfl⟩ (by kernel_rfl) rfl
    (fun f fn hf hfn => by
      obtain rfl : f = 3 := Option.some.inj ((show Tryd.prog.funcNamed "swingle/swinglelaw12.DosParts" = some 3 by kernel_rfl).symm.trans hf) |>.symm
      obtain rfl : fn = Tryd.f3 := (Option.some.inj (Tryd.func3.symm.trans hfn)).symm
      exact ⟨by kernel_rfl, fun j t ht => by
        rw [Tryd.params3] at ht
        have hm : t ∈ [22, 24, 25] := by simpa using Array.mem_of_getElem? ht
        have hall : ([22, 24, 25].all fun u => !Tryd.prog.wantsStandIn u) = true := by kernel_rfl
        exact (show Tryd.prog.wantsStandIn t = false by simpa using List.all_eq_true.1 hall t hm)⟩)
    (by kernel_rfl)
end DosParts
end Go.Proofs.YtbcbimlcjcaegaaDoor
