/- For every text and any steps of reading it: each step tells what the document's own reader tells, and stands where that one stands; of nil, nothing. No condition. -/
import Derived.Test.YthblaceldoikeaaFieldT
import Derived.Test.YthblaceldoikeaaOpen
namespace Go.Proofs.Ythblaceldoikeaa
set_option linter.unusedVariables false
open Go.ChangeShapes Go.WideShapes Go.ChangeAt Go.RowKit Go.Deep
open Go.ChangeMaps (open_string shut_string)
open Go.Proofs.Num
namespace FieldReads
open Fld

theorem c36 : Try.prog.cellsOf 36 = 2 := by kernel_rfl

set_option maxRecDepth 100000 in
theorem lifted (os : Os) (started : os.Started) (H : Type) (enc : TypeId × Value → H) :
    ReturnsInHanded {} Try.checked os 4 .any (Rows.fieldReadsSpec.pre6 enc Try.prog Try.f4 Rows.fieldReadsRow.domain false) (Rows.fieldReadsSpec.post enc Try.prog Try.f4 false true false false) := by
  refine returnsInHanded_of_change (C := Try.checked) own started (by kernel_rfl) Try.func4
    (ChangeSpec.witness6 (enc := enc) (C := Try.checked) false ⟨#[], #[.string ByteArray.empty, .slice none 0 0], []⟩ 8 (by kernel_rfl) (by kernel_rfl) (by kernel_rfl) (by kernel_rfl)) ?_
  intro W base args ds gs before hval0 hW hcnd _
  have hval : ∀ (j : Nat) t v, Try.f4.params[j]? = some t → args[j]? = some v → Value.okWide Try.prog W .any base t v := hval0
  have hW' := hW
  obtain ⟨p, q, hA0, hV, rfl, hfz, hnd⟩ := hW
  have hA : DataW.TrodAll enc Try.prog W 0 (fun _ => true) true Try.f4.params.toList args.toList ds p := hA0
  rw [Try.params4] at hA hval
  obtain ⟨v0, v1, d0, d1, p0, p1, rfl, rfl, rfl, h0, h1⟩ := trodAll_two hA
  obtain ⟨s, rfl, rfl, rfl, hs⟩ := open_string Try.underlying9 (hval 0 9 v0 rfl rfl) h0
  obtain ⟨A, len, cap, b, off, rfl, hl, hcap, hb, hel⟩ := open_pairs Try.underlying28 Try.underlying36 (by kernel_rfl) c36 (hval 1 28 v1 rfl rfl) h1
  have hsteps : StepsAt W b off len (fun i => intOf ((W.cell? ⟨b, off + i * 2, none⟩).getD undef)) (fun i => intOf ((W.cell? ⟨b, off + i * 2 + 1, none⟩).getD undef)) := by
    intro i hi
    obtain ⟨x0, x1, y0, y1, m, c0, c1, g0, g1⟩ := hel i hi
    obtain ⟨k0, e0, _, w0⟩ := DataW.trod_int Try.underlying34 g0
    obtain ⟨k1, e1, _, w1⟩ := DataW.trod_int Try.underlying3 g1
    simp only [List.cons.injEq, and_true] at e0 e1
    subst e0 e1
    obtain ⟨b0, b1⟩ := u64_bd w0
    obtain ⟨b2, b3⟩ := i64_bd w1
    simp only [c0, c1, Option.getD_some, intOf]
    exact ⟨trivial, trivial, b0, b1, b2, b3⟩
  refine (reads s A b off len cap _ _ W hs hl hcap hb hsteps).mono fun e W' ⟨he, bel⟩ => ?_
  subst he
  exact ⟨_, rfl, law_post Try.f4 Rows.fieldReadsSpec rfl (by kernel_rfl) rfl hW' (fun h => by subst h; exact ⟨rfl, rfl, rfl⟩) bel⟩

theorem proved : Rows.FieldReadsSaid :=
  OpenClaim.holds_of_wide 4 Try.f4 rfl rfl rfl rfl rfl rfl rfl ⟨rfl, rfl, rfl, rfl, rfl⟩ rfl rfl rfl rfl rfl (by kernel_rfl) Try.func4 (by kernel_rfl)
    (of_decide_eq_true (by kernel_rfl)) (by unfold Func.isWrapper; first | (rw [if_pos (by decide +kernel)]; kernel_rfl) | (rw [if_neg (by decide +kernel)]; exact ⟨rfl, rfl⟩))
    (fun os started H enc _ => lifted os started H enc)
end FieldReads
end Go.Proofs.Ythblaceldoikeaa
