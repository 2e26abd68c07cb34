/- Commit: marks as bytes; the walks that lay them. -/
import Derived.Test.YthgjijjalfhhcabDoorEnV
import Derived.Test.YthgjijjalfhhcabDoorSumO
import Derived.Test.YthgjijjalfhhcabDoorShelf
import Derived.Deep.RegionHeld3
import Derived.Deep.QuietTactic
import Derived.Deep.DrawnRows
import Derived.Handy
namespace Go.Proofs.YthgjijjalfhhcabDoor
set_option linter.unusedVariables false
open Go.RowKit
open Go.Proofs.Num
attribute [local go_sem ↓] Go.wp_at_zero Go.wp_at_succ
namespace Com
open Fld

abbrev magicB : ByteArray := ⟨#[83, 87, 73, 78, 71, 76, 69, 49]⟩
abbrev sealV (t l s : Int) : Value := .agg #[.string magicB, .int .i64 t, .int .i64 l, .int .u32 s]
abbrev markV (t l : Int) : Value := .agg #[.int .i64 t, .int .i64 l]
/-- The bytes that a seal's sum is of. -/
def bodyL (t l : Nat) : List UInt8 := magicB.data.toList ++ putL t 8 ++ putL l 8
theorem bodyL_length (t l : Nat) : (bodyL t l).length = 24 := by
  unfold bodyL
  rw [List.length_append, List.length_append, putL_length, putL_length]
  rfl
/-- May a mark be? -/
structure Ok (t l : Nat) : Prop where
  t1 : t ≤ 1099511627776
  l0 : 534 ≤ l
  l1 : l ≤ 4194304

theorem row_step {W W' : World} {g : Nat} {o : Obj} (h : W.heap[g]? = some o) (hb : Below W.heap.size W W') : W'.heap[g]? = some o := (hb.block g (Array.getElem?_eq_some_iff.1 h).1).trans h
theorem four_cells {w : World} {E : Nat} {a b c d : Value} {T : TypeId} (h : w.heap[E]? = some (.cells #[a, b, c, d] T (0, 0))) :
    w.cell? ⟨E, 0, none⟩ = some a ∧ w.cell? ⟨E, 1, none⟩ = some b ∧ w.cell? ⟨E, 2, none⟩ = some c ∧ w.cell? ⟨E, 3, none⟩ = some d := by
  refine ⟨?_, ?_, ?_, ?_⟩ <;> (rw [cell_of_row _ _ _ _ _ _ h]; rfl)
theorem two_cells {w : World} {E : Nat} {a b : Value} {T : TypeId} (h : w.heap[E]? = some (.cells #[a, b] T (0, 0))) :
    w.cell? ⟨E, 0, none⟩ = some a ∧ w.cell? ⟨E, 1, none⟩ = some b := by
  refine ⟨?_, ?_⟩ <;> (rw [cell_of_row _ _ _ _ _ _ h]; rfl)
theorem row4 {w : World} {g : Nat} {T : TypeId} {x y z u : Value} (h : w.heap[g]? = some (.cells #[x, y, z, u] T (0, 0))) (a b c d : Value) :
    ((((w.setCell ⟨g, 0, none⟩ a).setCell ⟨g, 1, none⟩ b).setCell ⟨g, 2, none⟩ c).setCell ⟨g, 3, none⟩ d).heap[g]? = some (.cells #[a, b, c, d] T (0, 0)) := by
  have h1 := heap_setCell_same w g 0 _ T a h
  have h2 := heap_setCell_same _ g 1 _ T b h1
  have h3 := heap_setCell_same _ g 2 _ T c h2
  exact heap_setCell_same _ g 3 _ T d h3
theorem below4 {a w : World} {g : Nat} (h : Below a.heap.size a w) (hg : a.heap.size ≤ g) (x y z u : Value) : Below a.heap.size a ((((w.setCell ⟨g, 0, none⟩ x).setCell ⟨g, 1, none⟩ y).setCell ⟨g, 2, none⟩ z).setCell ⟨g, 3, none⟩ u) :=
  (((h.setCell hg x).setCell hg y).setCell hg z).setCell hg u
theorem size44 : (Tryd.prog.info? 43).map (·.size) = some 4 := by kernel_rfl
theorem size24 : (Tryd.prog.info? 24).map (·.size) = some 2 := by kernel_rfl

/-- A seal's box at B, a writer at G. -/
structure Wb (w W : World) (B G : Nat) (c0 c1 c2 c3 : Value) (l : List UInt8) : Prop where
  wr : Wr W G l
  box : W.heap[B]? = some (.cells #[c0, c1, c2, c3] 43 (0, 0))
  below : Below w.heap.size w W
  lt : B < G
  le : w.heap.size ≤ B
section
variable {w W W' : World} {B G : Nat} {c0 c1 c2 c3 : Value} {l m : List UInt8}
theorem Wb.step (h : Wb w W B G c0 c1 c2 c3 l) (hw : Wr W' G m) (hb : Below G W W') : Wb w W' B G c0 c1 c2 c3 m :=
  ⟨hw, (hb.block B h.lt).trans h.box, h.below.trans (hb.mono (by have := h.lt; have := h.le; omega)), h.lt, h.le⟩
theorem Wb.drew (h : Wb w W B G c0 c1 c2 c3 l) : Wb w W.drew B G c0 c1 c2 c3 l := ⟨h.wr.drew, h.box, h.below.drew, h.lt, h.le⟩
theorem Wb.alloc (h : Wb w W B G c0 c1 c2 c3 l) (o : Obj) : Wb w (W.alloc o) B G c0 c1 c2 c3 l :=
  ⟨h.wr.alloc o, (Below.heap_alloc _ _ _ (Array.getElem?_eq_some_iff.1 h.box).1).trans h.box, h.below.alloc h.below.size _, h.lt, h.le⟩
theorem wb_num (h : Wb w W B G c0 c1 c2 c3 l) (n : Nat) (k : Int) (hn : n ≤ 18446744073709551615) (k0 : 0 ≤ k) (k1 : k ≤ 8) (hl : l.length ≤ 1000) :
    Calls Tryd.prog 21 #[.pointer (some ⟨G, 0, none⟩), .int .u64 (n : Int), .int .i64 k] W fun e W' => e = .returned (.pointer (some ⟨G, 0, none⟩)) ∧ Wb w W' B G c0 c1 c2 c3 (l ++ putL n (wideN k)) := by
  refine (wnum G l n k W h.wr hn (by omega) (by omega) (by omega)).mono ?_
  rintro e W' ⟨rfl, hw', hb, _⟩
  exact ⟨rfl, h.step hw' hb⟩
theorem wb_text (h : Wb w W B G c0 c1 c2 c3 l) (s : ByteArray) (L cap : Nat) (hL : Lie W L [s]) (hl : l.length ≤ 1000) (hs : s.size ≤ 1000) :
    Calls Tryd.prog 19 #[.pointer (some ⟨G, 0, none⟩), .slice (some ⟨L, 0, none⟩) 1 cap] W fun e W' => e = .returned (.pointer (some ⟨G, 0, none⟩)) ∧ Wb w W' B G c0 c1 c2 c3 (l ++ s.data.toList) := by
  refine (wtext G L cap l [s] W h.wr hL (by simp; omega) (by simp)).mono ?_
  rintro e W' ⟨rfl, hw', hb, _⟩
  exact ⟨rfl, h.step (by simpa using hw') hb⟩
end
theorem wr_new (W : World) : Wr (W.alloc (.cells #[.slice none 0 0] 46)) W.heap.size [] := ⟨.slice none 0 0, heap_alloc_new _ _, World.ownsRow_nil _ _ _ _⟩
theorem wb_new {w W : World} {B : Nat} {c0 c1 c2 c3 : Value} (hbox : W.heap[B]? = some (.cells #[c0, c1, c2, c3] 43 (0, 0))) (hb : Below w.heap.size w W) (hle : w.heap.size ≤ B) : Wb w (W.alloc (.cells #[.slice none 0 0] 46)) B W.heap.size c0 c1 c2 c3 [] :=
  ⟨wr_new W, row_step hbox ((Below.refl _ _).alloc (Nat.le_refl _) _), hb.alloc hb.size _, (Array.getElem?_eq_some_iff.1 hbox).1, hle⟩

set_option maxRecDepth 100000 in
set_option maxHeartbeats 2000000 in
theorem body (t l : Nat) (s : Int) (w : World) (ht : t ≤ 1099511627776) (hl : l ≤ 1099511627776) :
    Calls Tryd.prog 20 #[sealV t l s] w fun e w' => e = .returned (.string ⟨(bodyL t l).toArray⟩) ∧ Below w.heap.size w w' := by
  have K00 := (wb_new (w := w) (heap_alloc_new w (.cells #[.string magicB, .int .i64 (t : Int), .int .i64 (l : Int), .int .u32 s] 43)) ((Below.refl _ _).alloc (Nat.le_refl _) _) (Nat.le_refl _))
  rw [World.size_alloc] at K00
  have K0 := hid K00
  clear K00
  have HB := hid (show bodyL t l = [] ++ magicB.data.toList ++ putL t (wideN 8) ++ putL l (wideN 8) from rfl)
  have t1 : (t : Int) ≤ 1099511627776 := by omega
  have l1 : (l : Int) ≤ 1099511627776 := by omega
  have e1 : IntKind.u64.wrap (t : Int) = (t : Int) := by rw [IntKind.wrap_u64]; omega
  have e2 : IntKind.u64.wrap (l : Int) = (l : Int) := by rw [IntKind.wrap_u64]; omega
  go_enter Tryd.func20, Tryd.ntmps20
  go_upto_region 2 with fail
  generalize (w.alloc (.cells #[.string magicB, .int .i64 (t : Int), .int .i64 (l : Int), .int .u32 s] 43)).alloc (.cells #[.slice none 0 0] 46) = W at K0 ⊢
  have c0 := hid (four_cells K0.out.box)
  go_region_held3 (fun W' => W'.cell? ⟨w.heap.size, 0, none⟩ = some (.string magicB) ∧ W'.cell? ⟨w.heap.size, 1, none⟩ = some (.int .i64 (t : Int)) ∧ W'.cell? ⟨w.heap.size, 2, none⟩ = some (.int .i64 (l : Int)) ∧ W'.cell? ⟨w.heap.size, 3, none⟩ = some (.int .u32 s))
    (first | exact c0.out | exact four_cells K3.out.box | exact four_cells K2.out.box | exact four_cells K1.out.box | exact four_cells (K0.out.alloc _).drew.box | exact four_cells (K0.out.drew.alloc _).box | go_keep)
    (first
      | (have tok := K3.out; clear tok; go_at_call 22; refine (wbytes (w.heap.size + 1) _ _ K3.out.wr).mono ?_; rintro e w4 ⟨rfl, rfl⟩)
      | (have tok := K2.out; clear tok; go_at_call 21; refine (wb_num K2.out l 8 (by omega) (by omega) (by omega) (by simp [putL_length]; have := wide_le 8; omega)).mono ?_; rintro e w3 ⟨rfl, h⟩; have K3 := hid (show Wb w w3 w.heap.size (w.heap.size + 1) (.string magicB) (.int .i64 (t : Int)) (.int .i64 (l : Int)) (.int .u32 s) (bodyL t l) from h); clear h)
      | (have tok := K1.out; clear tok; go_at_call 21; refine (wb_num K1.out t 8 (by omega) (by omega) (by omega) (by simp)).mono ?_; rintro e w2 ⟨rfl, h⟩; have K2 := hid h; clear h)
      | (go_at_call 19; refine (wb_text (W := (W.alloc (.cells #[.string magicB] 9)).drew) (K0.out.alloc _).drew magicB W.heap.size 1 (lie_new W [magicB]).drew (by simp) (by decide)).mono ?_; rintro e w1 ⟨rfl, h⟩; have K1 := hid h; clear h))
  go_wp2_with fail
  go_ret
  exact ⟨rfl, K3.out.below⟩

/-- The sum of a mark. -/
def sumN (t l : Nat) : Nat := (Sm.ofI (bodyL t l)).toNat
theorem sum_eq (t l : Nat) : Sm.ofI (bodyL t l) = ((sumN t l : Nat) : Int) ∧ sumN t l < 4294967296 := by
  have h := Sm.feedI_bd 4294967295 (bodyL t l) (by omega) (by omega)
  have h0 : 0 ≤ Sm.ofI (bodyL t l) ∧ Sm.ofI (bodyL t l) < 4294967296 := by
    unfold Sm.ofI
    omega
  unfold sumN
  omega

set_option maxRecDepth 100000 in
theorem within (n a b : Int) (w : World) (h0 : a ≤ n) (h1 : n ≤ b) : Calls Tryd.prog 36 #[.int .i64 n, .int .i64 a, .int .i64 b] w fun e w' => e = .returned (.bool true) ∧ w = w' := by
  go_enter Tryd.func36, Tryd.ntmps36
  go_wp2_with fail
  go_ret
  exact ⟨rfl, rfl⟩
set_option maxRecDepth 100000 in
theorem right (t l : Nat) (h : Ok t l) (w : World) : Calls Tryd.prog 16 #[markV t l] w fun e w' => e = .returned (.bool true) ∧ Below w.heap.size w w' := by
  obtain ⟨t1, l0, l1⟩ := h
  have W1 := hid (fun W => within (t : Int) 0 1099511627776 W (by omega) (by omega))
  have W2 := hid (fun W => within (l : Int) 534 4194304 W (by omega) (by omega))
  clear t1 l0 l1
  go_enter Tryd.func16, Tryd.ntmps16
  go_wp2_with fail
  refine (W1.out _).mono ?_
  rintro e w1 ⟨rfl, rfl⟩
  go_wp2_with fail
  refine (W2.out _).mono ?_
  rintro e w1 ⟨rfl, rfl⟩
  go_wp2_with fail
  go_ret
  exact ⟨rfl, (Below.refl _ _).alloc (Nat.le_refl _) _⟩

/-- Three blocks: a mark; what goes out; the seal that is made. -/
structure Th (w W : World) (t l : Nat) (x : Value) : Prop where
  two : W.heap[w.heap.size + 1]? = some (.cells #[.string ⟨#[]⟩, .int .i64 0, .int .i64 0, .int .u32 0] 43 (0, 0))
  three : W.heap[w.heap.size + 2]? = some (.cells #[.string magicB, .int .i64 (t : Int), .int .i64 (l : Int), x] 43 (0, 0))
  below : Below w.heap.size w W
theorem th_new (w : World) (t l : Nat) (x : Value) :
    Th w (((w.alloc (.cells #[.int .i64 (t : Int), .int .i64 (l : Int)] 24)).alloc (.cells #[.string ⟨#[]⟩, .int .i64 0, .int .i64 0, .int .u32 0] 43)).alloc (.cells #[.string magicB, .int .i64 (t : Int), .int .i64 (l : Int), x] 43)) t l x := by
  refine ⟨?_, ?_, (((Below.refl _ _).alloc (Nat.le_refl _) _).alloc (by simp) _).alloc (by simp; omega) _⟩
  · have := heap_alloc_new (w.alloc (.cells #[.int .i64 (t : Int), .int .i64 (l : Int)] 24)) (.cells #[.string ⟨#[]⟩, .int .i64 0, .int .i64 0, .int .u32 0] 43)
    rw [World.size_alloc] at this
    exact (Below.heap_alloc _ _ _ (by simp)).trans this
  · have := heap_alloc_new ((w.alloc (.cells #[.int .i64 (t : Int), .int .i64 (l : Int)] 24)).alloc (.cells #[.string ⟨#[]⟩, .int .i64 0, .int .i64 0, .int .u32 0] 43)) (.cells #[.string magicB, .int .i64 (t : Int), .int .i64 (l : Int), x] 43)
    simp only [World.size_alloc] at this
    exact this
theorem Th.step {w W W' : World} {t l : Nat} {x : Value} (h : Th w W t l x) (hb : Below W.heap.size W W') : Th w W' t l x :=
  ⟨row_step h.two hb, row_step h.three hb, h.below.trans (hb.mono h.below.size)⟩
theorem Th.set {w W : World} {t l : Nat} {x : Value} (h : Th w W t l x) (y : Value) : Th w (W.setCell ⟨w.heap.size + 2, 3, none⟩ y) t l y :=
  ⟨(heap_setCell_other _ ⟨w.heap.size + 2, 3, none⟩ _ _ (by show _ ≠ w.heap.size + 2; omega)).trans h.two, heap_setCell_same _ _ 3 _ _ y h.three, h.below.setCell (p := ⟨w.heap.size + 2, 3, none⟩) (by show w.heap.size ≤ w.heap.size + 2; omega) _⟩

set_option maxRecDepth 100000 in
set_option maxHeartbeats 2000000 in
theorem sealed (t l : Nat) (w : World) (ht : t ≤ 1099511627776) (hl : l ≤ 1099511627776) :
    Calls Tryd.prog 17 #[markV t l] w fun e w' => e = .returned (sealV t l (sumN t l : Nat)) ∧ Below w.heap.size w w' := by
  have HT := hid (th_new w t l (.int .u32 0))
  have HB := hid (fun s W => body t l s W ht hl)
  have HS := hid (fun W => Sm.of_ ⟨(bodyL t l).toArray⟩ W (by show (bodyL t l).toArray.size ≤ maxLen; rw [List.size_toArray, bodyL_length]; unfold maxLen; omega))
  have HE : Sm.ofI (⟨(bodyL t l).toArray⟩ : ByteArray).data.toList = ((sumN t l : Nat) : Int) := (sum_eq t l).1
  rw [HE] at HS
  clear HE ht hl
  generalize bodyL t l = b at HB HS
  generalize sumN t l = S at HS ⊢
  go_enter Tryd.func17, Tryd.ntmps17
  go_upto_region 2 with fail
  generalize ((w.alloc (.cells #[.int .i64 (t : Int), .int .i64 (l : Int)] 24)).alloc (.cells #[.string ⟨#[]⟩, .int .i64 0, .int .i64 0, .int .u32 0] 43)).alloc (.cells #[.string magicB, .int .i64 (t : Int), .int .i64 (l : Int), .int .u32 0] 43) = W at HT ⊢
  obtain ⟨a0, a1, a2, a3⟩ := four_cells HT.out.three
  go_wp2_with fail
  refine (HB.out _ _).mono ?_
  rintro e w1 ⟨rfl, b1⟩
  have HT1 := hid (HT.out.step b1)
  clear b1 HT a0 a1 a2 a3
  go_wp2_with fail
  refine (HS.out _).mono ?_
  rintro e w2 ⟨rfl, b2⟩
  have HT2 := hid (HT1.out.step b2)
  clear b2 HT1
  obtain ⟨a0, a1, a2, a3⟩ := four_cells HT2.out.three
  have f3 := frozen_of_row w2 (w.heap.size + 2) 3 _ _ HT2.out.three
  go_upto_region 3 with fail
  have HT3 := hid (HT2.out.set (.int .u32 (S : Int)))
  clear HT2 a0 a1 a2 a3 f3
  generalize w2.setCell ⟨w.heap.size + 2, 3, none⟩ (.int .u32 (S : Int)) = W3 at HT3 ⊢
  obtain ⟨a0, a1, a2, a3⟩ := four_cells HT3.out.three
  obtain ⟨c0, c1, c2, c3⟩ := four_cells HT3.out.two
  have f0 := frozen_of_row W3 (w.heap.size + 1) 0 _ _ HT3.out.two
  have f1 := frozen_of_row W3 (w.heap.size + 1) 1 _ _ HT3.out.two
  have f2 := frozen_of_row W3 (w.heap.size + 1) 2 _ _ HT3.out.two
  have f3 := frozen_of_row W3 (w.heap.size + 1) 3 _ _ HT3.out.two
  go_wp2_with fail
  exact bodyPost_ret (results_cell_row (fn := Tryd.f17) rfl _ _ (w.heap.size + 1) 43 _ (0, 0) _ rfl (row4 HT3.out.two _ _ _ _) Tryd.underlying43 rfl size44) rfl ⟨rfl, below4 HT3.out.below (by omega) _ _ _ _⟩
end Com
end Go.Proofs.YthgjijjalfhhcabDoor
