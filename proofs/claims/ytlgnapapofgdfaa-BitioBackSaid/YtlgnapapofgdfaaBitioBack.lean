/- For any steps of writing, any text and any number: what was written is read as it was; all bits of a text make it again; who stops is told no more. No condition. -/
import Derived.Test.YtlgnapapofgdfaaBitW
import Derived.Test.YtlgnapapofgdfaaBitOpen
namespace Go.Proofs.Ytlgnapapofgdfaa
set_option linter.unusedVariables false
open Go.ChangeShapes Go.WideShapes Go.ChangeAt Go.RowKit Go.Deep
open Go.ChangeMaps (open_string shut_string)
open Go.Proofs.Bit
namespace BitioBack

theorem c34 : Try.prog.cellsOf 34 = 4 := by kernel_rfl
def textOf (v : Value) : ByteArray := match v with | .string t => t | _ => ByteArray.empty

set_option maxRecDepth 100000 in
theorem lifted (os : Os) (started : os.Started) (H : Type) (enc : TypeId × Value → H) :
    ReturnsInHanded {} Try.checked os 4 .any (Rows.bitioBackSpec.pre6 enc Try.prog Try.f4 Rows.bitioBackRow.domain false) (Rows.bitioBackSpec.post enc Try.prog Try.f4 false true false false) := by
  refine returnsInHanded_of_change (C := Try.checked) own started (by kernel_rfl) Try.func4
    (ChangeSpec.witness6 (enc := enc) (C := Try.checked) false ⟨#[], #[.slice none 0 0, .string ByteArray.empty, .int .u64 0], []⟩ 8 (by kernel_rfl) (by kernel_rfl) (by kernel_rfl) (by kernel_rfl)) ?_
  intro W base args ds gs before hval0 hW hcnd _
  have hval : ∀ (j : Nat) t v, Try.f4.params[j]? = some t → args[j]? = some v → Value.okWide Try.prog W .any base t v := hval0
  have hW' := hW
  obtain ⟨p, q, hA0, hV, rfl, hfz, hnd⟩ := hW
  have hA : DataW.TrodAll enc Try.prog W 0 (fun _ => true) true Try.f4.params.toList args.toList ds p := hA0
  rw [Try.params4] at hA hval
  obtain ⟨v1, v2, v3, d1, d2, d3, p1, p2, p3, rfl, rfl, rfl, h1, h2, h3⟩ := trodAll_three hA
  obtain ⟨A, len, cap, b, off, rfl, hl, hcap, hb, hel⟩ := open_fours Try.underlying22 Try.underlying34 (by kernel_rfl) c34 (hval 0 22 v1 rfl rfl) h1
  obtain ⟨s, rfl, rfl, rfl, hs⟩ := open_string Try.underlying9 (hval 1 9 v2 rfl rfl) h2
  obtain ⟨a3, rfl, rfl, rfl, w3⟩ := open_int Try.underlying31 (hval 2 31 v3 rfl rfl) h3
  obtain ⟨bm0, bm1⟩ := u64_bd w3
  have hsteps : StepsAt W b off len (fun i => intOf ((W.cell? ⟨b, off + i * 4, none⟩).getD undef)) (fun i => intOf ((W.cell? ⟨b, off + i * 4 + 2, none⟩).getD undef))
      (fun i => (intOf ((W.cell? ⟨b, off + i * 4 + 1, none⟩).getD undef)).toNat) (fun i => textOf ((W.cell? ⟨b, off + i * 4 + 3, none⟩).getD undef)) := by
    intro i hi
    obtain ⟨x0, x1, x2, x3, y0, y1, y2, y3, m, ⟨c0, c1, c2, c3⟩, g0, g1, g2, g3⟩ := hel i hi
    obtain ⟨k0, e0, _, w0⟩ := DataW.trod_int Try.underlying31 g0
    obtain ⟨k1, e1, _, w1⟩ := DataW.trod_int Try.underlying32 g1
    obtain ⟨k2, e2, _, w2⟩ := DataW.trod_int Try.underlying3 g2
    obtain ⟨s, e3, _, w3⟩ := DataW.trod_string Try.underlying9 g3
    simp only [List.cons.injEq, and_true] at e0 e1 e2 e3
    subst e0 e1 e2 e3
    obtain ⟨b0, b1⟩ := u64_bd w0
    obtain ⟨b2, b3⟩ := u32_bd w1
    obtain ⟨b4, b5⟩ := i64_bd w2
    unfold maxLen at w3
    simp only [c0, c1, c2, c3, Option.getD_some, intOf, textOf]
    exact ⟨⟨trivial, by rw [Int.toNat_of_nonneg b2], trivial, trivial⟩, ⟨b0, b1⟩, ⟨b4, b5⟩, by omega, by omega⟩
  refine (back A b off len cap _ _ _ _ s a3 W hl hcap hs hb hsteps bm0).mono fun e W' ⟨he, bel⟩ => ?_
  subst he
  exact ⟨_, rfl, law_post Try.f4 Rows.bitioBackSpec rfl (by kernel_rfl) rfl hW' (fun h => by subst h; exact ⟨rfl, rfl, rfl⟩) bel⟩

theorem proved : Rows.BitioBackSaid :=
  OpenClaim.holds_of_wide 4 Try.f4 rfl rfl rfl rfl rfl rfl rfl ⟨rfl, rfl, rfl, rfl, rfl⟩ rfl rfl rfl rfl rfl (by kernel_rfl) Try.func4 (by kernel_rfl)
    (of_decide_eq_true (by kernel_rfl)) (by unfold Func.isWrapper; first | (rw [if_pos (by decide +kernel)]; kernel_rfl) | (rw [if_neg (by decide +kernel)]; exact ⟨rfl, rfl⟩))
    (fun os started H enc _ => lifted os started H enc)
end BitioBack
end Go.Proofs.Ytlgnapapofgdfaa
