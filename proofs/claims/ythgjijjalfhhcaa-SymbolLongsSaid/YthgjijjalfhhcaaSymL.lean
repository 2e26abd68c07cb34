/- SymbolLongs, SymbolBacks: the walks. -/
import Derived.Test.YthgjijjalfhhcaaSymO
namespace Go.Proofs.Ythgjijjalfhhcaa
set_option linter.unusedVariables false
open Go.RowKit
open Go.Proofs.Sym

set_option maxRecDepth 100000 in
set_option maxHeartbeats 2000000 in
theorem walkLongs (n code more : Int) (w : World) (n0 : -9223372036854775808 ≤ n) (n1 : n ≤ 9223372036854775807) (c0 : -9223372036854775808 ≤ code) (c1 : code ≤ 9223372036854775807) (m0 : -9223372036854775808 ≤ more) (m1 : more ≤ 9223372036854775807) :
    Calls Try.prog 9 #[.int .i64 n, .int .i64 code, .int .i64 more] w fun e w' => e = .returned (.bool true) ∧ Below w.heap.size w w' := by
  obtain ⟨c, k, m, ok, hl⟩ := long_ex n
  obtain ⟨x, so, ho⟩ := longOf_ex code more
  obtain ⟨z, hz⟩ := longBits_ex code
  have HL := hid hl
  have HO := hid ho
  have HZ := hid hz
  clear hl ho hz
  go_enter Try.func9, Try.ntmps9
  go_wp2_with fail
  refine (longSign n c k m ok _ HL.out n0 n1).mono ?_
  rintro e w1 ⟨rfl, hb1⟩
  have H1 := hid hb1
  clear hb1
  go_upto_region 2 with fail
  have H2 := hid (show One w (w1.alloc (.cells #[.int .i64 c, .int .i64 k, .int .i64 m] 61)) w1.heap.size #[.int .i64 c, .int .i64 k, .int .i64 m] 61 from ⟨heap_alloc_new _ _, H1.out.alloc H1.out.size _, H1.out.size⟩)
  generalize w1.alloc (.cells #[.int .i64 c, .int .i64 k, .int .i64 m] 61) = W1 at H2 ⊢
  generalize w1.heap.size = G at H2 ⊢
  clear H1
  go_wp2_with fail
  refine (refLong n c k m ok _ HL.out n0 n1).mono ?_
  rintro e w2 ⟨rfl, hb2⟩
  have H3 := hid (H2.out.step hb2)
  clear hb2 H2
  go_upto_region 3 with fail
  have H4 := hid (H3.out.next #[.int .i64 c, .int .i64 k, .int .i64 m] 64)
  have H5 := hid (H3.out.alloc (.cells #[.int .i64 c, .int .i64 k, .int .i64 m] 64))
  generalize w2.alloc (.cells #[.int .i64 c, .int .i64 k, .int .i64 m] 64) = W2 at H4 H5 ⊢
  generalize w2.heap.size = H at H4 ⊢
  clear H3
  go_wp2_with fail
  refine (longOf code more x so _ HO.out c0 c1 m0 m1).mono ?_
  rintro e w3 ⟨rfl, hb3⟩
  have H6 := hid (H4.out.step hb3)
  have H7 := hid (H5.out.step hb3)
  clear hb3 H4 H5
  go_wp2_with fail
  refine (refLongOf code more x so _ HO.out c0 c1 m0 m1).mono ?_
  rintro e w4 ⟨rfl, hb4⟩
  have H8 := hid (H6.out.step hb4)
  have H9 := hid (H7.out.step hb4)
  clear hb4 H6 H7
  have a0 : w4.cell? ⟨G, 0, none⟩ = some (.int .i64 c) := H9.out.c 0
  have a1 : w4.cell? ⟨G, 1, none⟩ = some (.int .i64 k) := H9.out.c 1
  have a2 : w4.cell? ⟨G, 2, none⟩ = some (.int .i64 m) := H9.out.c 2
  have b0 : w4.cell? ⟨H, 0, none⟩ = some (.int .i64 c) := H8.out.c 0
  have b1 : w4.cell? ⟨H, 1, none⟩ = some (.int .i64 k) := H8.out.c 1
  have b2 : w4.cell? ⟨H, 2, none⟩ = some (.int .i64 m) := H8.out.c 2
  go_wp2_with fail
  refine (longBits code z _ HZ.out c0 c1).mono ?_
  rintro e w5 ⟨rfl, hb5⟩
  have HB := hid (H8.out.below.trans (hb5.mono H8.out.below.size))
  clear hb5 a0 a1 a2 b0 b1 b2 H8 H9
  go_wp2_with fail
  refine (refLongBits code z _ HZ.out c0 c1).mono ?_
  rintro e w6 ⟨rfl, hb6⟩
  have HC := hid (HB.out.trans (hb6.mono HB.out.size))
  clear hb6 HB
  go_wp2_with fail
  refine (symLives _).mono ?_
  rintro e w7 ⟨rfl, hb7⟩
  have HD := hid (HC.out.trans (hb7.mono HC.out.size))
  clear hb7 HC
  go_wp2_with fail
  go_ret
  exact ⟨rfl, HD.out⟩
set_option maxRecDepth 100000 in
set_option maxHeartbeats 2000000 in
theorem walkBacks (n code more : Int) (w : World) (n0 : -9223372036854775808 ≤ n) (n1 : n ≤ 9223372036854775807) (c0 : -9223372036854775808 ≤ code) (c1 : code ≤ 9223372036854775807) (m0 : -9223372036854775808 ≤ more) (m1 : more ≤ 9223372036854775807) :
    Calls Try.prog 10 #[.int .i64 n, .int .i64 code, .int .i64 more] w fun e w' => e = .returned (.bool true) ∧ Below w.heap.size w w' := by
  obtain ⟨c, k, m, ok, hl⟩ := back_ex n
  obtain ⟨x, so, ho⟩ := backOf_ex code more
  have HL := hid hl
  have HO := hid ho
  clear hl ho
  go_enter Try.func10, Try.ntmps10
  go_wp2_with fail
  refine (backSign n c k m ok _ HL.out n0 n1).mono ?_
  rintro e w1 ⟨rfl, hb1⟩
  have H1 := hid hb1
  clear hb1
  go_upto_region 2 with fail
  have H2 := hid (show One w (w1.alloc (.cells #[.int .i64 c, .int .i64 k, .int .i64 m] 61)) w1.heap.size #[.int .i64 c, .int .i64 k, .int .i64 m] 61 from ⟨heap_alloc_new _ _, H1.out.alloc H1.out.size _, H1.out.size⟩)
  generalize w1.alloc (.cells #[.int .i64 c, .int .i64 k, .int .i64 m] 61) = W1 at H2 ⊢
  generalize w1.heap.size = G at H2 ⊢
  clear H1
  go_wp2_with fail
  refine (refBack n c k m ok _ HL.out n0 n1).mono ?_
  rintro e w2 ⟨rfl, hb2⟩
  have H3 := hid (H2.out.step hb2)
  clear hb2 H2
  go_upto_region 3 with fail
  have H4 := hid (H3.out.next #[.int .i64 c, .int .i64 k, .int .i64 m] 64)
  have H5 := hid (H3.out.alloc (.cells #[.int .i64 c, .int .i64 k, .int .i64 m] 64))
  generalize w2.alloc (.cells #[.int .i64 c, .int .i64 k, .int .i64 m] 64) = W2 at H4 H5 ⊢
  generalize w2.heap.size = H at H4 ⊢
  clear H3
  go_wp2_with fail
  refine (backOf code more x so _ HO.out c0 c1 m0 m1).mono ?_
  rintro e w3 ⟨rfl, hb3⟩
  have H6 := hid (H4.out.step hb3)
  have H7 := hid (H5.out.step hb3)
  clear hb3 H4 H5
  go_wp2_with fail
  refine (refBackOf code more x so _ HO.out c0 c1 m0 m1).mono ?_
  rintro e w4 ⟨rfl, hb4⟩
  have H8 := hid (H6.out.step hb4)
  have H9 := hid (H7.out.step hb4)
  clear hb4 H6 H7
  have a0 : w4.cell? ⟨G, 0, none⟩ = some (.int .i64 c) := H9.out.c 0
  have a1 : w4.cell? ⟨G, 1, none⟩ = some (.int .i64 k) := H9.out.c 1
  have a2 : w4.cell? ⟨G, 2, none⟩ = some (.int .i64 m) := H9.out.c 2
  have b0 : w4.cell? ⟨H, 0, none⟩ = some (.int .i64 c) := H8.out.c 0
  have b1 : w4.cell? ⟨H, 1, none⟩ = some (.int .i64 k) := H8.out.c 1
  have b2 : w4.cell? ⟨H, 2, none⟩ = some (.int .i64 m) := H8.out.c 2
  go_wp2_with fail
  refine (backBitsP code _ c0 c1).mono ?_
  rintro e w5 ⟨rfl, hb5⟩
  have HB := hid (H8.out.below.trans (hb5.mono H8.out.below.size))
  clear hb5 a0 a1 a2 b0 b1 b2 H8 H9
  go_wp2_with fail
  refine (refBackBits code _ c0 c1).mono ?_
  rintro e w6 ⟨rfl, rfl⟩
  have HC := hid HB.out
  clear HB
  go_wp2_with fail
  refine (symLives _).mono ?_
  rintro e w7 ⟨rfl, hb7⟩
  have HD := hid (HC.out.trans (hb7.mono HC.out.size))
  clear hb7 HC
  go_wp2_with fail
  go_ret
  exact ⟨rfl, HD.out⟩
end Go.Proofs.Ythgjijjalfhhcaa
