/- EndingReads: the readers at any place; the document's search from behind. -/
import Derived.Test.YthgjijjalfhhcaaEnD
namespace Go.Proofs.Ythgjijjalfhhcaa
set_option linter.unusedVariables false
open Go.RowKit
open Go.Proofs.Num
attribute [local go_sem ↓] Go.wp_at_zero Go.wp_at_succ
namespace Edg
open Fld

theorem valT_form (t : ByteArray) : ∃ a b c d : Int, valT t = endV a b c d := by
  unfold valT
  split
  · exact ⟨_, _, _, _, rfl⟩
  · exact ⟨_, _, _, _, rfl⟩

theorem refRead_at (s t : ByteArray) (A : Nat) (w : World) (hA : A ≤ s.size) (hs : s.size ≤ 9223372036854775807) (ht : s.extract A s.size = t) :
    Calls Try.prog 50 #[.string s, .int .i64 (A : Int)] w fun e w' => e = .returned (.tuple #[valT t, .bool (okT t)]) ∧ Below w.heap.size w w' := by
  have hz : t.size = s.size - A := by rw [← ht]; simp [ByteArray.size_extract]
  by_cases h : 22 ≤ t.size
  · exact refRead_ge s t A w hA hs ht h
  · have ho := okT_lt (t := t) (by omega)
    rw [valT_no ho, ho]
    exact refRead_lt s A w hA hs (by omega)

/-- The first place from behind, of those below k, at which there is an end. -/
def findN (s : ByteArray) : Nat → Option Nat
  | 0 => none
  | k + 1 => if okT (s.extract k s.size) then some k else findN s k
theorem findN_yes {s : ByteArray} {k : Nat} (h : okT (s.extract k s.size) = true) : findN s (k + 1) = some k := by unfold findN; rw [if_pos h]
theorem findN_no {s : ByteArray} {k : Nat} (h : okT (s.extract k s.size) = false) : findN s (k + 1) = findN s k := by rw [findN, h]; rfl
/-- What a search tells. -/
def toldF (s : ByteArray) : Option Nat → Value
  | none => .tuple #[endV 0 0 0 0, .int .i64 0, .bool false]
  | some k => .tuple #[valT (s.extract k s.size), .int .i64 (k : Int), .bool true]

theorem results_cell_tmp2 {P : Program} {fn : Func} {p q r : Tmp} {ty : TypeId} (h : fn.results = #[.cell p ty, .tmp q, .tmp r]) (tmps : Array Value) (w : World) (g : Nat) (t : TypeId) (cs : Array Value) (fr : Nat × Nat) (d : TypeDesc)
    (hp : tmps.getD p undef = .pointer (some ⟨g, 0, none⟩)) (v : Value) (hq : tmps.getD q undef = v) (u : Value) (hr : tmps.getD r undef = u) (hg : w.heap[g]? = some (.cells cs t fr))
    (hu : P.underlying ty = some d) (hd : (match d with | .struct _ | .array _ _ => true | _ => false) = true) (hi : (P.info? ty).map (·.size) = some cs.size) :
    (results fn tmps).run P w = .ok (.tuple #[.agg cs, v, u]) w := by
  have hp' : tmps[p]?.getD undef = .pointer (some ⟨g, 0, none⟩) := by simpa using hp
  have hq' : tmps[q]?.getD undef = v := by simpa using hq
  have hr' : tmps[r]?.getD undef = u := by simpa using hr
  simp [results, h, hp', hq', hr', asAddr, run_loadVar_row w g t ty cs fr d hg hu hd hi]

/-- The result's cells, behind a round. -/
structure Rw (w wr : World) (T : TypeId) : Prop where
  res : wr.heap[w.heap.size]? = some (.cells #[.int .i64 0, .int .i64 0, .int .i64 0, .int .i64 0] T (0, 0))
  below : Below w.heap.size w wr
theorem rw_new (w : World) (T : TypeId) : Rw w (w.alloc (.cells #[.int .i64 0, .int .i64 0, .int .i64 0, .int .i64 0] T)) T := ⟨heap_alloc_new _ _, (Below.refl _ w).alloc (Nat.le_refl _) _⟩
theorem Rw.step {w wr wx : World} {T : TypeId} (h : Rw w wr T) (hb : Below wr.heap.size wr wx) : Rw w wx T :=
  ⟨(hb.block _ (Array.getElem?_eq_some_iff.1 h.res).1).trans h.res, h.below.trans (hb.mono h.below.size)⟩
theorem Rw.alloc {w wr : World} {T : TypeId} (h : Rw w wr T) (o : Obj) : Rw w (wr.alloc o) T := h.step ((Below.refl _ wr).alloc (Nat.le_refl _) _)

set_option maxRecDepth 100000 in
set_option maxHeartbeats 2000000 in
theorem refFind (s : ByteArray) (w : World) (hs : s.size ≤ 400) :
    Calls Try.prog 52 #[.string s] w fun e w' => e = .returned (toldF s (findN s (s.size - 21))) ∧ Below w.heap.size w w' := by
  have HN := hid (rw_new w 75)
  obtain ⟨F, hF⟩ : ∃ F, findN s (s.size - 21) = F := ⟨_, rfl⟩
  have HF := hid hF
  have HS := hid hs
  have i0 : (0 : Int) ≤ (s.size : Int) := by omega
  have i1 : (s.size : Int) ≤ 400 := by omega
  rw [hF]
  clear hF
  go_enter Try.func52, Try.ntmps52
  go_upto_region 1 with fail
  generalize w.alloc (.cells #[.int .i64 0, .int .i64 0, .int .i64 0, .int .i64 0] 75) = W1 at HN ⊢
  go_wp2_with fail
  go_loopw [5] (fun i wr => ∃ (k : Nat) (j : Int), i = .int .i64 j ∧ (j = (k : Int) - 1 ∨ (k = 0 ∧ j < 0)) ∧ -22 ≤ j ∧ (k = 0 ∨ k + 21 ≤ s.size) ∧ findN s k = F ∧ Rw w wr 75) (fun i _ => (intOf i + 1).toNat)
  case atStart => exact ⟨s.size - 21, (s.size : Int) - 22, rfl, by omega, by omega, by omega, HF.out, HN.out⟩
  case round =>
    obtain ⟨k, j, rfl, hj, hj2, hk, hf, hrw⟩ := hrel
    have HR := hid hrw
    have HFK := hid hf
    clear hrw hf
    by_cases h0 : 0 ≤ j
    · obtain ⟨m, rfl⟩ : ∃ m, k = m + 1 := ⟨k - 1, by omega⟩
      obtain rfl : j = (m : Int) := by omega
      have hm : m ≤ s.size := by omega
      have g1 : (s.size : Int) - (m : Int) ≤ 65557 := by omega
      have g2 : (m : Int) ≤ 400 := by omega
      have HM := hid (show m = 0 ∨ m + 21 ≤ s.size by omega)
      clear hj hj2 hk
      obtain ⟨t, ht⟩ : ∃ t, s.extract m s.size = t := ⟨_, rfl⟩
      have RD := hid (fun w => refRead_at s t m w hm (by omega) ht)
      have HT := hid ht
      obtain ⟨a, b, c, d, hv⟩ := valT_form t
      have HV := hid hv
      rw [hv] at RD
      clear hm ht hv
      cases hok : okT t with
      | true =>
        have HOK := hid hok
        rw [hok] at RD
        clear hok
        go_wp2_with fail
        refine (RD.out _).mono ?_
        rintro e w2 ⟨rfl, hb2⟩
        have R2 := hid (HR.out.step hb2)
        clear hb2
        go_upto_region 5 with fail
        have hcv := hid (heap_alloc_new w2 (.cells #[.int .i64 a, .int .i64 b, .int .i64 c, .int .i64 d] 75))
        have R3 := hid (R2.out.alloc (.cells #[.int .i64 a, .int .i64 b, .int .i64 c, .int .i64 d] 75))
        generalize w2.alloc (.cells #[.int .i64 a, .int .i64 b, .int .i64 c, .int .i64 d] 75) = W3 at hcv R3 ⊢
        generalize w2.heap.size = g at hcv ⊢
        obtain ⟨d0, d1, d2, d3⟩ := four_cells (Below.refl _ _) hcv.out
        obtain ⟨r0, r1, r2, r3⟩ := four_cells (Below.refl _ _) R3.out.res
        have f0 := frozen_of_row W3 w.heap.size 0 _ _ R3.out.res
        have f1 := frozen_of_row W3 w.heap.size 1 _ _ R3.out.res
        have f2 := frozen_of_row W3 w.heap.size 2 _ _ R3.out.res
        have f3 := frozen_of_row W3 w.heap.size 3 _ _ R3.out.res
        go_wp2_with fail
        refine bodyPost_ret (results_cell_tmp2 (fn := Try.f52) Try.results52 _ _ w.heap.size 75 _ (0, 0) _ rfl (.int .i64 (m : Int)) rfl (.bool true) rfl (row4 R3.out.res _ _ _ _) Try.underlying75 rfl size75) rfl
          ⟨?_, below4 R3.out.below (Nat.le_refl _) _ _ _ _⟩
        rw [← HFK.out, findN_yes (by rw [HT.out]; exact HOK.out)]
        show _ = Ending.returned (.tuple #[valT (s.extract m s.size), .int .i64 (m : Int), .bool true])
        rw [HT.out, HV.out]
      | false =>
        have HOK := hid hok
        rw [hok] at RD
        clear hok
        go_wp2_with fail
        refine (RD.out _).mono ?_
        rintro e w2 ⟨rfl, hb2⟩
        have R2 := hid (HR.out.step hb2)
        clear hb2
        go_wp2_with fail
        go_roundw
        case rel => exact ⟨m, (m : Int) - 1, by go_num, by omega, by omega, HM.out, by rw [← HFK.out, findN_no (by rw [HT.out]; exact HOK.out)], R2.out.alloc _⟩
        case measure => simp [intOf]
    · obtain rfl : k = 0 := by omega
      obtain ⟨r0, r1, r2, r3⟩ := four_cells (Below.refl _ _) HR.out.res
      have f0 := frozen_of_row wr w.heap.size 0 _ _ HR.out.res
      have f1 := frozen_of_row wr w.heap.size 1 _ _ HR.out.res
      have f2 := frozen_of_row wr w.heap.size 2 _ _ HR.out.res
      have f3 := frozen_of_row wr w.heap.size 3 _ _ HR.out.res
      clear hj hj2 hk
      go_wp2_with fail
      refine bodyPost_ret (results_cell_tmp2 (fn := Try.f52) Try.results52 _ _ w.heap.size 75 _ (0, 0) _ rfl (.int .i64 0) rfl (.bool false) rfl (row4 HR.out.res _ _ _ _) Try.underlying75 rfl size75) rfl
        ⟨?_, below4 HR.out.below (Nat.le_refl _) _ _ _ _⟩
      rw [← HFK.out]
      rfl
end Edg
end Go.Proofs.Ythgjijjalfhhcaa
