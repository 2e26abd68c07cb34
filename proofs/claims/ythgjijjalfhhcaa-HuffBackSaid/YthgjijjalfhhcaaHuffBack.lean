/- For any lengths and any symbols: what is written of them reads back, as the document says. No condition. -/
import Derived.Test.YthgjijjalfhhcaaHufOpen
import Derived.Test.YthgjijjalfhhcaaHbE
namespace Go.Proofs.Ythgjijjalfhhcaa
set_option linter.unusedVariables false
open Go.ChangeShapes Go.WideShapes Go.ChangeAt Go.RowKit
namespace Huff
open Go.Proofs.Huf
theorem walkBack (A A2 : Option Addr) (b off len cap b2 off2 L cap2 : Nat) (x y : Nat → Int) (w : World) (hA : 0 < len → A = some ⟨b, off, none⟩) (hx : Ints w b off len x) (hm : len ≤ 9223372036854775807)
    (hA2 : 0 < L → A2 = some ⟨b2, off2, none⟩) (hy : Ints w b2 off2 L y) (hm2 : L ≤ 9223372036854775807) (hyb : ∀ i, i < L → -9223372036854775808 ≤ y i ∧ y i ≤ 9223372036854775807) :
    Calls Try.prog 5 #[.slice A len cap, .slice A2 L cap2] w fun e w' => e = .returned (.bool true) ∧ Below w.heap.size w w' := by
  by_cases hf : Fine len x
  · by_cases hk : kindOf (wT (natOf x) len) = 3
    · refine walkBack_no A A2 b off len cap b2 off2 L cap2 x y w hA hx hm hm2 (fun w h => (codes_over A b off len cap x w hA h hf hk).mono fun _ _ => codesP_nil) fun w h => ?_
      have := kind_yes A b off len cap x w hA h hf
      rw [hk] at this
      exact this
    · exact walkBack_yes A A2 b off len cap b2 off2 L cap2 x y w hA hx hA2 hy hm2 hyb hf hk
  · exact walkBack_no A A2 b off len cap b2 off2 L cap2 x y w hA hx hm hm2 (fun w h => (codes_bad A b off len cap x w hA h hm hf).mono fun _ _ => codesP_nil) fun w h => kind_no A b off len cap x w hA h hm hf
end Huff
namespace HuffBack

set_option maxRecDepth 100000 in
theorem lifted (os : Os) (started : os.Started) (H : Type) (enc : TypeId × Value → H) :
    ReturnsInHanded {} Try.checked os 5 .any (Rows.huffBackSpec.pre6 enc Try.prog Try.f5 Rows.huffBackRow.domain false) (Rows.huffBackSpec.post enc Try.prog Try.f5 false true false false) := by
  refine returnsInHanded_of_change (C := Try.checked) own started (by kernel_rfl) Try.func5
    (ChangeSpec.witness6 (enc := enc) (C := Try.checked) false ⟨#[], #[.slice none 0 0, .slice none 0 0], []⟩ 8 (by kernel_rfl) (by kernel_rfl) (by kernel_rfl) (by kernel_rfl)) ?_
  intro W base args ds gs before hval0 hW hcnd _
  have hval : ∀ (j : Nat) t v, Try.f5.params[j]? = some t → args[j]? = some v → Value.okWide Try.prog W .any base t v := hval0
  have hW' := hW
  obtain ⟨p, q, hA0, hV, rfl, hfz, hnd⟩ := hW
  have hA : DataW.TrodAll enc Try.prog W 0 (fun _ => true) true Try.f5.params.toList args.toList ds p := hA0
  rw [Try.params5] at hA hval
  obtain ⟨v0, v1, d0, d1, p0, p1, rfl, rfl, rfl, h0, h1⟩ := trodAll_two hA
  obtain ⟨A, b, off, len, cap, x, rfl, hAA, hx, hm, _⟩ := Huff.open_nums (hval 0 22 v0 rfl rfl) h0
  obtain ⟨A2, b2, off2, L, cap2, y, rfl, hAA2, hy, hm2, hyb⟩ := Huff.open_nums (hval 1 22 v1 rfl rfl) h1
  refine (Huff.walkBack A A2 b off len cap b2 off2 L cap2 x y W hAA hx hm hAA2 hy hm2 hyb).mono fun e W' ⟨he, bel⟩ => ?_
  subst he
  exact ⟨_, rfl, law_post Try.f5 Rows.huffBackSpec rfl (by kernel_rfl) rfl hW' (fun h => by subst h; exact ⟨rfl, rfl, rfl⟩) bel⟩

theorem proved : Rows.HuffBackSaid :=
  OpenClaim.holds_of_wide 5 Try.f5 rfl rfl rfl rfl rfl rfl rfl ⟨rfl, rfl, rfl, rfl, rfl⟩ rfl rfl rfl rfl rfl (by kernel_rfl) Try.func5 (by kernel_rfl)
    (of_decide_eq_true (by kernel_rfl)) (by unfold Func.isWrapper; first | (rw [if_pos (by decide +kernel)]; kernel_rfl) | (rw [if_neg (by decide +kernel)]; exact ⟨rfl, rfl⟩))
    (fun os started H enc _ => lifted os started H enc)
end HuffBack
end Go.Proofs.Ythgjijjalfhhcaa
