/- For any time and any text: the time's text is the document's, the text's time is that of which it is the text, and there is none otherwise. No condition. -/
import Derived.Test.YtbcbimlcjcaegaaDoorEnd
import Derived.Test.YtbcbimlcjcaegaaDoorDosTE
namespace Go.Proofs.YtbcbimlcjcaegaaDoor
set_option linter.unusedVariables false
open Go.ChangeShapes Go.WideShapes Go.ChangeAt Go.WideElems Go.RowKit
open Go.ChangeMaps (open_string shut_string)
namespace DosTexts

/-- The tables, and the two errors, that this law lists. -/
def tables6 : List (String × DataW Unit) := Rows.dosTextsRow.laid

theorem gRange : Tryd.prog.globalNamed "strconv.ErrRange" = some 5 := by kernel_rfl
theorem gSyn : Tryd.prog.globalNamed "strconv.ErrSyntax" = some 4 := by kernel_rfl
theorem tRange : (Tryd.prog.globals[5]?).map (·.type) = some 69 := by kernel_rfl
theorem tSyn : (Tryd.prog.globals[4]?).map (·.type) = some 69 := by kernel_rfl
theorem cel118 : Tryd.prog.cellsOf 118 = 1 := by kernel_rfl
theorem cel9 : Tryd.prog.cellsOf 9 = 1 := by kernel_rfl
theorem star : "*" ++ "errors.errorString" = "*errors.errorString" := by decide
theorem row116 (u : TypeId) (h : Tryd.prog.typeName? 3 u = some "*errors.errorString") : u = 116 :=
  typeName_ptr_named (nm := "errors.errorString") (by rw [star]; kernel_rfl) (by kernel_rfl) (by decide) u (by rw [star]; exact h)

theorem plain6 {W : World} (h : laidMetH Tryd.prog tables6 W) : laidMet Tryd.prog tables6 W := by
  rw [MakeChecks.laidMetH_plain _ _ _ (by kernel_rfl)] at h
  exact h
theorem pow6_of {W : World} (h : laidMetH Tryd.prog tables6 W) : Pow W := by
  have h2 := (plain6 h).tail.tail
  exact Lib.tabIs_of_head (zs := Lib.pow10Tab) gPow tPow uPow uPowE celPowE celPow h2
theorem tab6_of {W : World} (h : laidMetH Tryd.prog tables6 W) : Tab W := by
  have hm := Lib.tabIs_of_head (zs := monthTab) (rest := []) gMonth tMonth u65 Tryd.underlying3 cel3 cel65 (plain6 h).tail.tail.tail.tail.tail
  have hc : ∀ i : Nat, i < 12 → W.cell? ⟨0, i, none⟩ = some (.int .i64 (md i)) := by
    intro i hi
    have := hm.cell gMonth i (by simpa [monthTab] using hi)
    rw [this]
    have : i = 0 ∨ i = 1 ∨ i = 2 ∨ i = 3 ∨ i = 4 ∨ i = 5 ∨ i = 6 ∨ i = 7 ∨ i = 8 ∨ i = 9 ∨ i = 10 ∨ i = 11 := by omega
    rcases this with rfl | rfl | rfl | rfl | rfl | rfl | rfl | rfl | rfl | rfl | rfl | rfl <;> rfl
  exact ⟨block_lt_of_cell (hc 0 (by decide)), hc⟩
theorem errs6_of {W : World} (h : laidMetH Tryd.prog tables6 W) : Errs W := by
  have h3 := (plain6 h).tail.tail.tail
  obtain ⟨a0, s0, hv0, -, -, -⟩ := laid_sentinel h3 gRange tRange Tryd.underlying69 row116 Tryd.underlying116 Tryd.underlying118 rfl rfl Tryd.underlying9 cel118 cel9
  obtain ⟨a1, s1, hv1, -, -, -⟩ := laid_sentinel h3.tail gSyn tSyn Tryd.underlying69 row116 Tryd.underlying116 Tryd.underlying118 rfl rfl Tryd.underlying9 cel118 cel9
  have c5 := World.var?_cell gRange hv0 0
  have c4 := World.var?_cell gSyn hv1 0
  have k5 : W.cell? ⟨5, 0, none⟩ = some (.iface 116 (.pointer (some a0))) := by simpa using c5
  have k4 : W.cell? ⟨4, 0, none⟩ = some (.iface 116 (.pointer (some a1))) := by simpa using c4
  exact ⟨_, _, k4, k5, .inr ⟨_, _, rfl⟩, .inr ⟨_, _, rfl⟩, block_lt_of_cell k5⟩

/-- The door's own heap meets the condition. -/
theorem door_met6 (os : Os) (args : Array Value) : laidMetH Tryd.prog tables6 ((World.doorLaid Tryd.prog 77 os).forCall (fun _ _ => 0) ⟨#[], args, []⟩).memory :=
  laidMetH_of_parts3 (fuel := 8) (laidMet_of_run' 8 (by kernel_rfl) (by kernel_rfl)) (by kernel_rfl) (by kernel_rfl)

set_option maxRecDepth 100000 in
theorem lifted (os : Os) (started : os.Started) (H : Type) (enc : TypeId × Value → H) :
    ReturnsInHanded {} Tryd.checked os 5 .any (fun w args => (Rows.dosTextsSpec.pre enc Tryd.prog Tryd.f5 [] false w args ∧ laidMetH Tryd.prog tables6 w) ∧ sizedMet enc Tryd.prog Tryd.f5 (OpenSpec.ofChange Rows.dosTextsSpec) false w args)
      (Rows.dosTextsSpec.post enc Tryd.prog Tryd.f5 false true false false) := by
  refine returnsInHanded_of_change_and (C := Tryd.checked) (X := fun w _ => laidMetH Tryd.prog tables6 w) (fun _ _ _ hh h => h.of_heap hh) own started (by kernel_rfl) Tryd.func5
    (ChangeSpec.witness_shaped (enc := enc) (C := Tryd.checked) (os := os) (X := fun w _ => laidMetH Tryd.prog tables6 w) false (World.doorLaid Tryd.prog 77 os) #[.int .u32 0, .string ByteArray.empty] 8 rfl (World.shaped_of_RefB (by kernel_rfl) (by kernel_rfl)) (by kernel_rfl) (by kernel_rfl) (by kernel_rfl) (door_met6 os _)) ?_
  intro W base args ds gs before hval0 hW _ _ hL _
  have hval : ∀ (j : Nat) t v, Tryd.f5.params[j]? = some t → args[j]? = some v → Value.okWide Tryd.prog W .any base t v := hval0
  have hW' := hW
  obtain ⟨p, q, hA0, hV, rfl, hfz, hnd⟩ := hW
  have hA : DataW.TrodAll enc Tryd.prog W 0 (fun _ => true) true Tryd.f5.params.toList args.toList ds p := hA0
  rw [Tryd.params5] at hA hval
  obtain ⟨v0, v1, d0, d1, p0, p1, rfl, rfl, rfl, h0, h1⟩ := trodAll_two hA
  obtain ⟨a0, rfl, rfl, rfl, w0⟩ := open_int Tryd.underlying22 (hval 0 22 v0 rfl rfl) h0
  obtain ⟨s, rfl, rfl, rfl, hs⟩ := open_string Tryd.underlying9 (hval 1 9 v1 rfl rfl) h1
  obtain ⟨b0, b1⟩ := u32_bd w0
  refine (texts_walk a0 s W (tab6_of hL) (pow6_of hL) (errs6_of hL) b0 b1 hs).mono fun e W' ⟨he, bel⟩ => ?_
  subst he
  exact ⟨_, rfl, law_post Tryd.f5 Rows.dosTextsSpec rfl (by kernel_rfl) rfl hW' (fun h => by subst h; exact ⟨rfl, rfl, rfl⟩) bel⟩

theorem said : Rows.DosTextsSaid :=
  OpenClaim.holds_of_wide 5 Tryd.f5 rfl rfl rfl rfl rfl rfl rfl ⟨rfl, rfl, rfl, rfl, rfl⟩ rfl rfl rfl rfl rfl (by kernel_rfl) Tryd.func5 (by kernel_rfl)
    (of_decide_eq_true (by kernel_rfl)) (by unfold Func.isWrapper; first | (rw [if_pos (by decide +kernel)]; kernel_rfl) | (rw [if_neg (by decide +kernel)]; exact ⟨rfl, rfl⟩))
    (fun os started H enc _ => lifted os started H enc)

theorem proved : Rows.DosTextsCardSaid :=
  Claim7.holds_tied_plain_at .later [] [.data, .data, .data, .sentinel, .sentinel, .data] true (true, "182db3c6209ecef109a8c9e2a5d3114666863a050b45944d40beb2dfadfeec83") true
    said (fun _ h => by cases h) (by kernel_rfl) (fun _ h => by cases h) dosTexts_row_tie rfl ⟨rfl, rfl⟩ (by kernel_rfl) rfl
    (fun f fn hf hfn => by
      obtain rfl : f = 5 := Option.some.inj ((show Tryd.prog.funcNamed "swingle/swinglelaw12.DosTexts" = some 5 by kernel_rfl).symm.trans hf) |>.symm
      obtain rfl : fn = Tryd.f5 := (Option.some.inj (Tryd.func5.symm.trans hfn)).symm
      exact ⟨by kernel_rfl, fun j t ht => by
        rw [Tryd.params5] at ht
        have hm : t ∈ [22, 9] := by simpa using Array.mem_of_getElem? ht
        have hall : ([22, 9].all fun u => !Tryd.prog.wantsStandIn u) = true := by kernel_rfl
        exact (show Tryd.prog.wantsStandIn t = false by simpa using List.all_eq_true.1 hall t hm)⟩)
    (by kernel_rfl)
end DosTexts
end Go.Proofs.YtbcbimlcjcaegaaDoor
