/- For every number, every width and every text: the bytes of the number, and the number of the text's first bytes, are the document's. No condition. -/
import Derived.Test.YthblaceldoikeaaFieldG
import Derived.Test.YthblaceldoikeaaEnd
namespace Go.Proofs.Ythblaceldoikeaa
set_option linter.unusedVariables false
open Go.ChangeShapes Go.WideShapes Go.ChangeAt Go.RowKit
open Go.ChangeMaps (open_string shut_string)
open Go.Proofs.Num
namespace FieldNumbers
open Fld

set_option maxRecDepth 100000 in
set_option maxHeartbeats 400000 in
theorem walk (n : Nat) (wide : Int) (s : ByteArray) (w : World) (h1 : n ≤ 18446744073709551615) (hw0 : -9223372036854775808 ≤ wide) (hw1 : wide ≤ 9223372036854775807) (hs : s.size ≤ maxLen) :
    Calls Try.prog 3 #[.int .u64 (n : Int), .int .i64 wide, .string s] w fun e w' => e = .returned (.bool true) ∧ Below w.heap.size w w' := by
  obtain ⟨a, b, g1, g2, _, _⟩ := gets s wide hs hw0 hw1
  have G1 := hid g1
  have G2 := hid g2
  clear g1 g2
  go_enter Try.func3, Try.ntmps3
  go_wp2_with fail
  refine (G1.out _).mono ?_
  rintro e w' ⟨rfl, rfl⟩
  go_wp2_with fail
  refine (G2.out _).mono ?_
  rintro e w' ⟨rfl, rfl⟩
  go_wp2_with fail
  refine (put n wide _ h1 hw0 hw1).mono ?_
  rintro e w1 ⟨rfl, hB1⟩
  have HB1 := hid hB1; clear hB1
  go_wp2_with fail
  refine (refPut n wide _ h1 hw0 hw1).mono ?_
  rintro e w2 ⟨rfl, hB2⟩
  have HB2 := hid hB2; clear hB2
  generalize putB n (wideN wide) = x
  go_wp2_with fail
  refine (lives _).mono ?_
  rintro e w3 ⟨rfl, hB3⟩
  have HB3 := hid hB3; clear hB3
  go_wp2_with fail
  go_ret
  have c := HB1.out.trans (HB2.out.mono HB1.out.size)
  exact ⟨rfl, c.trans (HB3.out.mono c.size)⟩

set_option maxRecDepth 100000 in
theorem lifted (os : Os) (started : os.Started) (H : Type) (enc : TypeId × Value → H) :
    ReturnsInHanded {} Try.checked os 3 .any (Rows.fieldNumbersSpec.pre6 enc Try.prog Try.f3 Rows.fieldNumbersRow.domain false) (Rows.fieldNumbersSpec.post enc Try.prog Try.f3 false true false false) := by
  refine returnsInHanded_of_change (C := Try.checked) own started (by kernel_rfl) Try.func3
    (ChangeSpec.witness6 (enc := enc) (C := Try.checked) false ⟨#[], #[.int .u64 0, .int .i64 0, .string ByteArray.empty], []⟩ 8 (by kernel_rfl) (by kernel_rfl) (by kernel_rfl) (by kernel_rfl)) ?_
  intro W base args ds gs before hval0 hW hcnd _
  have hval : ∀ (j : Nat) t v, Try.f3.params[j]? = some t → args[j]? = some v → Value.okWide Try.prog W .any base t v := hval0
  have hW' := hW
  obtain ⟨p, q, hA0, hV, rfl, hfz, hnd⟩ := hW
  have hA : DataW.TrodAll enc Try.prog W 0 (fun _ => true) true Try.f3.params.toList args.toList ds p := hA0
  rw [Try.params3] at hA hval
  obtain ⟨v0, v1, v2, d0, d1, d2, p0, p1, p2, rfl, rfl, rfl, h0, h1, h2⟩ := trodAll_three hA
  obtain ⟨a0, rfl, rfl, rfl, w0⟩ := open_int Try.underlying22 (hval 0 22 v0 rfl rfl) h0
  obtain ⟨a1, rfl, rfl, rfl, w1⟩ := open_int Try.underlying3 (hval 1 3 v1 rfl rfl) h1
  obtain ⟨s, rfl, rfl, rfl, hs⟩ := open_string Try.underlying9 (hval 2 9 v2 rfl rfl) h2
  obtain ⟨b0, b1⟩ := u64_bd w0
  obtain ⟨b2, b3⟩ := i64_bd w1
  obtain ⟨n, rfl⟩ := Int.eq_ofNat_of_zero_le b0
  refine (walk n a1 s W (by omega) b2 b3 hs).mono fun e W' ⟨he, bel⟩ => ?_
  subst he
  exact ⟨_, rfl, law_post Try.f3 Rows.fieldNumbersSpec rfl (by kernel_rfl) rfl hW' (fun h => by subst h; exact ⟨rfl, rfl, rfl⟩) bel⟩

theorem proved : Rows.FieldNumbersSaid :=
  OpenClaim.holds_of_wide 3 Try.f3 rfl rfl rfl rfl rfl rfl rfl ⟨rfl, rfl, rfl, rfl, rfl⟩ rfl rfl rfl rfl rfl (by kernel_rfl) Try.func3 (by kernel_rfl)
    (of_decide_eq_true (by kernel_rfl)) (by unfold Func.isWrapper; first | (rw [if_pos (by decide +kernel)]; kernel_rfl) | (rw [if_neg (by decide +kernel)]; exact ⟨rfl, rfl⟩))
    (fun os started H enc _ => lifted os started H enc)
end FieldNumbers
end Go.Proofs.Ythblaceldoikeaa
