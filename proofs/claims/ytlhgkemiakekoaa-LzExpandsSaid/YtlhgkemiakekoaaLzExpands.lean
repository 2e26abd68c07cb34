/- For any tokens: their bytes, or that they may not be, how many are bytes and how many copies, are the document's. No condition. -/
import Derived.Test.YtlhgkemiakekoaaLzO
import Derived.Test.YtlhgkemiakekoaaLzOpen
namespace Go.Proofs.Ytlhgkemiakekoaa
set_option linter.unusedVariables false
open Go.ChangeShapes Go.WideShapes Go.ChangeAt Go.RowKit Go.Deep
namespace Lz
def intVal (v : Value) : Int := match v with | .int _ n => n | _ => 0
end Lz
namespace LzExpands
theorem c24 : Try.prog.cellsOf 24 = 3 := by kernel_rfl

set_option maxRecDepth 100000 in
theorem lifted (os : Os) (started : os.Started) (H : Type) (enc : TypeId × Value → H) :
    ReturnsInHanded {} Try.checked os 3 .any (Rows.lzExpandsSpec.pre6 enc Try.prog Try.f3 Rows.lzExpandsRow.domain false) (Rows.lzExpandsSpec.post enc Try.prog Try.f3 false true false false) := by
  refine returnsInHanded_of_change (C := Try.checked) own started (by kernel_rfl) Try.func3
    (ChangeSpec.witness6 (enc := enc) (C := Try.checked) false ⟨#[], #[.slice none 0 0], []⟩ 8 (by kernel_rfl) (by kernel_rfl) (by kernel_rfl) (by kernel_rfl)) ?_
  intro W base args ds gs before hval0 hW hcnd _
  have hval : ∀ (j : Nat) t v, Try.f3.params[j]? = some t → args[j]? = some v → Value.okWide Try.prog W .any base t v := hval0
  have hW' := hW
  obtain ⟨p, q, hA0, hV, rfl, hfz, hnd⟩ := hW
  have hA : DataW.TrodAll enc Try.prog W 0 (fun _ => true) true Try.f3.params.toList args.toList ds p := hA0
  rw [Try.params3] at hA hval
  obtain ⟨v1, d1, rfl, rfl, h1⟩ := trodAll_one hA
  obtain ⟨A, len, cap, b, off, rfl, hl, hcap, hb, hel⟩ := open_threes Try.underlying22 Try.underlying24 (by kernel_rfl) c24 (hval 0 22 v1 rfl rfl) h1
  have key : ∀ i, i < len → (W.cell? ⟨b, off + i * 3, none⟩ = some (.int .u8 (Lz.intVal ((W.cell? ⟨b, off + i * 3, none⟩).getD undef))) ∧ W.cell? ⟨b, off + i * 3 + 1, none⟩ = some (.int .i64 (Lz.intVal ((W.cell? ⟨b, off + i * 3 + 1, none⟩).getD undef))) ∧ W.cell? ⟨b, off + i * 3 + 2, none⟩ = some (.int .i64 (Lz.intVal ((W.cell? ⟨b, off + i * 3 + 2, none⟩).getD undef)))) ∧
      (0 ≤ Lz.intVal ((W.cell? ⟨b, off + i * 3, none⟩).getD undef) ∧ Lz.intVal ((W.cell? ⟨b, off + i * 3, none⟩).getD undef) < 256) ∧ (-9223372036854775808 ≤ Lz.intVal ((W.cell? ⟨b, off + i * 3 + 1, none⟩).getD undef) ∧ Lz.intVal ((W.cell? ⟨b, off + i * 3 + 1, none⟩).getD undef) ≤ 9223372036854775807) := by
    intro i hi
    obtain ⟨x0, x1, x2, y0, y1, y2, m, ⟨c0, c1, c2⟩, g0, g1, g2⟩ := hel i hi
    obtain ⟨k0, e0, _, w0⟩ := DataW.trod_int Try.underlying5 g0
    obtain ⟨k1, e1, _, w1⟩ := DataW.trod_int Try.underlying3 g1
    obtain ⟨k2, e2, _, w2⟩ := DataW.trod_int Try.underlying3 g2
    simp only [List.cons.injEq, and_true] at e0 e1 e2
    subst e0 e1 e2
    simp only [c0, c1, c2, Option.getD_some, Lz.intVal]
    exact ⟨⟨trivial, trivial, trivial⟩, u8_bd w0, i64_bd w1⟩
  refine (Lz.expands A b off len cap _ _ _ W (by unfold maxLen at hcap; omega) hl ⟨fun h => (hb h).1, fun h => (hb h).2, fun i hi => (key i hi).1⟩ (fun i hi => (key i hi).2.1) (fun i hi => (key i hi).2.2)).mono fun e W' ⟨he, bel⟩ => ?_
  subst he
  exact ⟨_, rfl, law_post Try.f3 Rows.lzExpandsSpec rfl (by kernel_rfl) rfl hW' (fun h => by subst h; exact ⟨rfl, rfl, rfl⟩) bel⟩

theorem proved : Rows.LzExpandsSaid :=
  OpenClaim.holds_of_wide 3 Try.f3 rfl rfl rfl rfl rfl rfl rfl ⟨rfl, rfl, rfl, rfl, rfl⟩ rfl rfl rfl rfl rfl (by kernel_rfl) Try.func3 (by kernel_rfl)
    (of_decide_eq_true (by kernel_rfl)) (by unfold Func.isWrapper; first | (rw [if_pos (by decide +kernel)]; kernel_rfl) | (rw [if_neg (by decide +kernel)]; exact ⟨rfl, rfl⟩))
    (fun os started H enc _ => lifted os started H enc)
end LzExpands
end Go.Proofs.Ytlhgkemiakekoaa
