/- INFLATE: a block's own lengths, of the program. -/
import Derived.Test.YtlfohihmkfphhaaJnfG
import Derived.Test.YtlfohihmkfphhaaJnfE
namespace Go.Proofs.Ytlfohihmkfphhaa
set_option linter.unusedVariables false
open Go.RowKit
open Go.Proofs.Huf
attribute [local go_sem ↓] Go.wp_at_zero Go.wp_at_succ
namespace Inf
open Huff
theorem sym_lx (l : List Nat) : symV l = (List.range l.length).map fun i => Value.int .i64 (lx l i) := by
  apply List.ext_getElem?
  intro i
  unfold symV
  by_cases h : i < l.length
  · simp [h, lx, fnL]
  · simp [h]
set_option maxRecDepth 100000 in
set_option maxHeartbeats 1000000 in
/-- A row copied. -/
theorem cloneW (b off cap : Nat) (l : List Nat) (w : World) (hl : 0 < l.length) (hl2 : l.length ≤ 1000) (hx : Ints w b off l.length (lx l)) :
    Calls Try.prog 38 #[.slice (some ⟨b, off, none⟩) l.length cap] w fun e w' => (∃ g c, e = .returned (.slice (some ⟨g, 0, none⟩) l.length c) ∧ w.heap.size ≤ g ∧ Ints w' g 0 l.length (lx l) ∧ ∃ cs q, w'.heap[g]? = some (.cells cs 3 q)) ∧ Below w.heap.size w w' := by
  have HX := hid hx
  have qT : ∀ (w : World) (a : Option Addr) (n c n' c' : Nat), (binOp .eql 22 (.slice a n c) (.slice none n' c')).run Try.prog w = .ok (.bool a.isNone) w := fun w a n c n' c' => Lib.run_eql_slice_nil w _ _ a n c n' c' und22'
  obtain ⟨i0, hi, hz0, hz1, hz2⟩ := info_parts infoI
  have HI := hid hi
  have HSL := hid (sym_lx l)
  have HL1 := hid (show 0 + l.length ≤ maxLen by unfold maxLen; omega)
  have HL2 := hid (show (0 + l.length) * 8 ≤ 140737488355328 by omega)
  have HLEN := hid (show (symV l).length = l.length * 1 by rw [symV_length, Nat.mul_one])
  have HNW := hid (show ∀ j u, (symV l)[j]? = some u → (w.alloc (.cells #[] 3)).cell? ((⟨b, off, none⟩ : Addr).add j) = some u from by
    intro j u hu
    have hj : j < l.length := by
      have := (List.getElem?_eq_some_iff.1 hu).1
      rwa [symV_length] at this
    have hadd : (⟨b, off, none⟩ : Addr).add j = ⟨b, off + j, none⟩ := by unfold Addr.add; split <;> simp_all
    rw [hadd, World.cell?_alloc_past _ _ _ (hx.lt (by omega)), hx.at_ j hj, ← hu, sym_lx]
    simp [hj])
  have HNO := hid (show ∀ u ∈ symV l, u.oneCell' = true from by
    intro u hu
    unfold symV at hu
    obtain ⟨c, _, rfl⟩ := List.mem_map.1 hu
    rfl)
  have HPOS := hid hl
  have HOWN := hid (show (w.alloc (.cells #[] 3)).ownsRow w.heap.size 3 1 (.slice (some ⟨w.heap.size, 0, none⟩) 0 0) 0 [] from ⟨rfl, .inr ⟨w.heap.size, 0, #[], rfl, Nat.le_refl _, heap_alloc_new _ _, Nat.le_refl _, Nat.zero_le _, rfl, rfl⟩⟩)
  clear hx hi hl
  go_enter Try.func38, Try.ntmps38
  go_wp2_with (at_builtin; (refine wpList_append_lies _ (by rfl) _ _ _ (by rfl) w.heap.size 3 i0 (.int .i64 0) 1 8 und22' HI.out hz0 hz1 hz2 (by rfl) (by decide) (.slice (some ⟨w.heap.size, 0, none⟩) 0 0) 0 [] (by rfl) HOWN.out ⟨b, off, none⟩ l.length cap (symV l) (by rfl) HLEN.out HNW.out HNO.out HPOS.out HL1.out HL2.out (by simp) (w.heap.size + 1) (by simp) ?_); intro g1 cap1 w6 hown1 hgrow1 hat1 hlt1; have D1 := hid hown1; have D2 := hid (((Below.refl w.heap.size w).alloc (Nat.le_refl _) (.cells #[] 3)).grown hgrow1 (by simp) (fun k hk => by simp [Value.ownBlock] at hk; omega)); have D3 := hid (show w.heap.size ≤ g1 ∧ g1 < w6.heap.size from ⟨(hown1.lt g1 rfl).1, hlt1⟩); clear hown1 hgrow1 hat1 hlt1)
  try (go_wp2_with fail)
  go_ret
  refine ⟨⟨g1, cap1, by simp, D3.out.1, ⟨fun _ => D3.out.2, fun j hj => ?_⟩, ?_⟩, D2.out⟩
  rotate_left
  · rcases D1.out.2 with ⟨h1, _⟩ | ⟨g3, cap3, cur, h1, _, hg, _⟩
    · cases h1
    · simp only [Value.slice.injEq, Option.some.injEq, Addr.mk.injEq] at h1
      rw [h1.1.1]
      exact ⟨cur, _, hg⟩
  have h := World.ownsRow.cellAt (by have := D1.out; rw [Nat.zero_add] at this; exact this) j (by omega)
  · rw [Nat.zero_add, h, List.nil_append, HSL.out]
    simp [hj]
end Inf
end Go.Proofs.Ytlfohihmkfphhaa
