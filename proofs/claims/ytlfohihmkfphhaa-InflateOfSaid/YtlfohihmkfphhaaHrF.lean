/- HuffReads: the walk. -/
import Derived.Test.YtlfohihmkfphhaaHrE
import Derived.Test.YtlfohihmkfphhaaHufQ
namespace Go.Proofs.Ytlfohihmkfphhaa
set_option linter.unusedVariables false
open Go.RowKit
open Go.Proofs.Huf
namespace Huff

theorem dcF_of {w W W' : World} {D b0 : Nat} {g : Nat → Nat} {N : Nat} {v : Value} (h : Dc w W D b0 (cntV g N) v (syT g N 15)) (hb : Below W.heap.size W W') (G : Nat) (hG : W.heap.size ≤ G) : DcF W' D G g N := by
  have hlt := h.lt
  refine ⟨Nat.lt_of_lt_of_le hlt hb.size, by omega, fun n hn => ?_, ?_⟩
  · rw [hb.cell (p := ⟨D, n, none⟩) hlt, cell_of_row _ _ _ _ _ _ h.blk, push_at _ _ _ (cntV_size _ _) hn]
    exact cntV_at _ _ _ hn
  · have hc : W'.cell? ⟨D, 16, none⟩ = some v := by
      rw [hb.cell (p := ⟨D, 16, none⟩) hlt, cell_of_row _ _ _ _ _ _ h.blk]
      exact push_end _ _ (cntV_size _ _)
    rcases h.own.2 with ⟨rfl, hx⟩ | ⟨E, cap, cur, rfl, _, he, _, _, _, hxs⟩
    · refine ⟨none, 0, by rw [hx]; exact hc, fun i hi => ?_⟩
      rw [hx] at hi
      omega
    · refine ⟨some ⟨E, 0, none⟩, cap, hc, fun i hi => ?_⟩
      have hEl : E < W.heap.size := (Array.getElem?_eq_some_iff.1 he).1
      refine ⟨E, rfl, by omega, Nat.lt_of_lt_of_le hEl hb.size, ?_⟩
      rw [hb.cell (p := ⟨E, i, none⟩) hEl]
      have := h.own.cellAt i (by omega)
      rw [this]
      unfold symV
      rw [List.getElem?_map, List.getD_eq_getElem?_getD, List.getElem?_eq_getElem hi]
      rfl

theorem kindOf_lt (r : Nat) : kindOf r = 0 ∨ kindOf r = 1 ∨ kindOf r = 2 ∨ kindOf r = 3 := by
  unfold kindOf
  split
  · exact .inl rfl
  · split
    · exact .inr (.inr (.inl rfl))
    · split
      · exact .inr (.inl rfl)
      · exact .inr (.inr (.inr rfl))

theorem Only.block' {g : Nat} {w w' : World} (h : Only g w w') {k : Nat} {o : Obj} (hk : w.heap[k]? = some o) (hn : k ≠ g) : w'.heap[k]? = some o :=
  (h.block k (Array.getElem?_eq_some_iff.1 hk).1 hn).trans hk

/-- What is read by two readers stays as another block changes. -/
theorem dcF_other {W W' : World} {D G H : Nat} {g : Nat → Nat} {N : Nat} (h1 : DcF W D G g N) (h2 : DcF W D H g N) (ho : Only G W W') : DcF W' D H g N := by
  obtain ⟨Q, cap, a1, a2⟩ := h2.sym
  obtain ⟨Q', cap', b1, b2⟩ := h1.sym
  rw [a1] at b1
  obtain ⟨rfl, rfl⟩ : Q = Q' ∧ cap = cap' := by simpa using b1
  refine ⟨Nat.lt_of_lt_of_le h2.lt ho.size, h2.ne, fun n hn => (only_cell ho h2.lt h1.ne).trans (h2.cnt n hn), Q, cap, (only_cell ho h2.lt h1.ne).trans a1, fun i hi => ?_⟩
  obtain ⟨E, a, b, c, d⟩ := a2 i hi
  obtain ⟨E', a', b', c', d'⟩ := b2 i hi
  rw [a] at a'
  obtain rfl : E = E' := by simpa using a'
  exact ⟨E, a, b, Nat.lt_of_lt_of_le c ho.size, (only_cell ho c b').trans d⟩
theorem lcF_other {W W' : World} {G H b off : Nat} {R : Option Addr} {x : Nat → Int} {N : Nat} (h1 : LcF W G b off R x N) (h2 : LcF W H b off R x N) (ho : Only G W W') : LcF W' H b off R x N := by
  refine ⟨fun i hi => ?_, fun i hi => ?_⟩
  · obtain ⟨a, c, d⟩ := h2.len i hi
    obtain ⟨a', _, _⟩ := h1.len i hi
    exact ⟨a, Nat.lt_of_lt_of_le c ho.size, (only_cell ho c a').trans d⟩
  · obtain ⟨C, a, c, d, e⟩ := h2.cod i hi
    obtain ⟨C', a', c', _, _⟩ := h1.cod i hi
    rw [a] at a'
    obtain rfl : C = C' := by simpa using a'
    exact ⟨C, a, c, Nat.lt_of_lt_of_le d ho.size, (only_cell ho d c').trans e⟩

/-- Both readers, side by side, and what they read by. -/
structure Both4 (w W : World) (D G H b off : Nat) (R : Option Addr) (x : Nat → Int) (N : Nat) (s : ByteArray) (p : Nat) (b1 : Bool) (q : Nat) (b2 : Bool) : Prop where
  rd : RdB W G s p b1
  rf : Rf W H s q b2
  ne : G ≠ H
  d1 : DcF W D G (natOf x) N
  d2 : DcF W D H (natOf x) N
  l1 : LcF W G b off R x N
  l2 : LcF W H b off R x N
  below : Below w.heap.size w W
  g : w.heap.size ≤ G
  h : w.heap.size ≤ H
theorem Both4.stepG {w W W' : World} {D G H b off : Nat} {R : Option Addr} {x : Nat → Int} {N : Nat} {s : ByteArray} {p q p' : Nat} {b1 b2 b1' : Bool} (hb : Both4 w W D G H b off R x N s p b1 q b2) (ho : Only G W W') (hr : RdB W' G s p' b1') :
    Both4 w W' D G H b off R x N s p' b1' q b2 :=
  ⟨hr, ho.block' hb.rf (fun e => hb.ne e.symm), hb.ne, hb.d1.only ho, dcF_other hb.d1 hb.d2 ho, hb.l1.only ho, lcF_other hb.l1 hb.l2 ho, ho.below hb.below hb.g, hb.g, hb.h⟩
theorem Both4.stepH {w W W' : World} {D G H b off : Nat} {R : Option Addr} {x : Nat → Int} {N : Nat} {s : ByteArray} {p q q' : Nat} {b1 b2 b2' : Bool} (hb : Both4 w W D G H b off R x N s p b1 q b2) (ho : Only H W W') (hr : Rf W' H s q' b2') :
    Both4 w W' D G H b off R x N s p b1 q' b2' :=
  ⟨ho.block' hb.rd hb.ne, hr, hb.ne, dcF_other hb.d2 hb.d1 ho, hb.d2.only ho, lcF_other hb.l2 hb.l1 ho, hb.l2.only ho, ho.below hb.below hb.h, hb.g, hb.h⟩

end Huff
end Go.Proofs.Ytlfohihmkfphhaa
