/- For any steps: the row that they make, or that there is none, is the document's. No condition. -/
import Derived.Test.YtdjlkacmaflhfaaRunH
import Derived.Test.YtdjlkacmaflhfaaRunOpen
namespace Go.Proofs.Ytdjlkacmaflhfaa
set_option linter.unusedVariables false
open Go.ChangeShapes Go.WideShapes Go.ChangeAt Go.RowKit Go.Deep
namespace Run
def intVal (v : Value) : Int := match v with | .int _ n => n | _ => 0
end Run
namespace RunsReads

theorem c47 : Try.prog.cellsOf 47 = 3 := by kernel_rfl

set_option maxRecDepth 100000 in
theorem lifted (os : Os) (started : os.Started) (H : Type) (enc : TypeId × Value → H) :
    ReturnsInHanded {} Try.checked os 8 .any (Rows.runsReadsSpec.pre6 enc Try.prog Try.f8 Rows.runsReadsRow.domain false) (Rows.runsReadsSpec.post enc Try.prog Try.f8 false true false false) := by
  refine returnsInHanded_of_change (C := Try.checked) own started (by kernel_rfl) Try.func8
    (ChangeSpec.witness6 (enc := enc) (C := Try.checked) false ⟨#[], #[.slice none 0 0], []⟩ 8 (by kernel_rfl) (by kernel_rfl) (by kernel_rfl) (by kernel_rfl)) ?_
  intro W base args ds gs before hval0 hW hcnd _
  have hval : ∀ (j : Nat) t v, Try.f8.params[j]? = some t → args[j]? = some v → Value.okWide Try.prog W .any base t v := hval0
  have hW' := hW
  obtain ⟨p, q, hA0, hV, rfl, hfz, hnd⟩ := hW
  have hA : DataW.TrodAll enc Try.prog W 0 (fun _ => true) true Try.f8.params.toList args.toList ds p := hA0
  rw [Try.params8] at hA hval
  obtain ⟨v1, d1, rfl, rfl, h1⟩ := trodAll_one hA
  obtain ⟨A, len, cap, b, off, rfl, hl, hcap, hb, hel⟩ := open_threes Try.underlying43 Try.underlying47 (by kernel_rfl) c47 (hval 0 43 v1 rfl rfl) h1
  have hsteps : Run.StepsAt W b off len (fun i => Run.intVal ((W.cell? ⟨b, off + i * 3, none⟩).getD undef)) (fun i => Run.intVal ((W.cell? ⟨b, off + i * 3 + 1, none⟩).getD undef)) (fun i => Run.intVal ((W.cell? ⟨b, off + i * 3 + 2, none⟩).getD undef)) := by
    refine ⟨fun h => (hb h).2, fun i hi => ?_⟩
    obtain ⟨x0, x1, x2, y0, y1, y2, m, ⟨c0, c1, c2⟩, g0, g1, g2⟩ := hel i hi
    obtain ⟨k0, e0, _, w0⟩ := DataW.trod_int Try.underlying3 g0
    obtain ⟨k1, e1, _, w1⟩ := DataW.trod_int Try.underlying3 g1
    obtain ⟨k2, e2, _, w2⟩ := DataW.trod_int Try.underlying3 g2
    simp only [List.cons.injEq, and_true] at e0 e1 e2
    subst e0 e1 e2
    simp only [c0, c1, c2, Option.getD_some, Run.intVal]
    exact ⟨trivial, trivial, trivial⟩
  refine (Run.reads A b off len cap _ _ _ W (by unfold maxLen at hcap; omega) (fun h => (hb h).1) hsteps).mono fun e W' ⟨he, bel⟩ => ?_
  subst he
  exact ⟨_, rfl, law_post Try.f8 Rows.runsReadsSpec rfl (by kernel_rfl) rfl hW' (fun h => by subst h; exact ⟨rfl, rfl, rfl⟩) bel⟩

theorem proved : Rows.RunsReadsSaid :=
  OpenClaim.holds_of_wide 8 Try.f8 rfl rfl rfl rfl rfl rfl rfl ⟨rfl, rfl, rfl, rfl, rfl⟩ rfl rfl rfl rfl rfl (by kernel_rfl) Try.func8 (by kernel_rfl)
    (of_decide_eq_true (by kernel_rfl)) (by unfold Func.isWrapper; first | (rw [if_pos (by decide +kernel)]; kernel_rfl) | (rw [if_neg (by decide +kernel)]; exact ⟨rfl, rfl⟩))
    (fun os started H enc _ => lifted os started H enc)
end RunsReads
end Go.Proofs.Ytdjlkacmaflhfaa
