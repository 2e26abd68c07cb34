/- CommitTurns: bytes of a text, one of them turned; the law's walk. -/
import Derived.Test.YthgjijjalfhhcabDoorCuA
import Derived.Handy
namespace Go.Proofs.YthgjijjalfhhcabDoor
set_option linter.unusedVariables false
open Go.RowKit
open Go.Proofs.Num
attribute [local go_sem ↓] Go.wp_at_zero Go.wp_at_succ
namespace Com
open Fld

theorem conv_in (A : ByteArray) (w : World) : ∃ (c : Nat) (cs : Array Value) (W2 : World), (convert 9 28 (.string A)).run Tryd.prog w = .ok (.slice (some ⟨w.heap.size, 0, none⟩) A.size c) W2 ∧
    W2.heap[w.heap.size]? = some (.cells cs 5 (cs.size, cs.size + 1)) ∧ A.size ≤ cs.size ∧ (∀ j (h : j < A.size), cs[j]? = some (.int .u8 ((A[j]).toNat : Int))) ∧ Below w.heap.size w W2 := by
  refine ⟨_, bytesRow A (grownCap w A.size 0 5), _, run_bytes_of_string w 9 28 5 A Tryd.underlying9 Fld.und51 Tryd.underlying5, ?_, ?_, ?_, ?_⟩
  · simp [World.alloc, World.drew, -World.alloc_eq, -World.drew_eq]
  · simp [bytesRow]
  · intro j hj
    have hj2 : j < A.data.size := hj
    exact bytesRow_at A _ j hj2
  · exact (Below.refl _ _).drew.alloc (Nat.le_refl _) _
theorem conv_out (A : ByteArray) (K b c : Nat) (d : UInt8) (cs : Array Value) (W2 : World) (hK : K < A.size) (hg : W2.heap[b]? = some (.cells cs 5 (cs.size, cs.size + 1))) (hs : A.size ≤ cs.size) (hc : ∀ j (h : j < A.size), cs[j]? = some (.int .u8 ((A[j]).toNat : Int))) :
    (convert 28 9 (.slice (some ⟨b, 0, none⟩) A.size c)).run Tryd.prog (W2.setCell ⟨b, K, none⟩ (.int .u8 (d.toNat : Int))) = .ok (.string ⟨(A.data.toList.set K d).toArray⟩) (W2.setCell ⟨b, K, none⟩ (.int .u8 (d.toNat : Int))) := by
  have hl : (A.data.toList.set K d).length = A.size := by simp
  have hrow : (W2.setCell ⟨b, K, none⟩ (.int .u8 (d.toNat : Int))).heap[b]? = some (.cells (cs.setIfInBounds K (.int .u8 (d.toNat : Int))) 5 (cs.size, cs.size + 1)) := by
    rw [setCell_eq_setRow W2 b K cs 5 _ _ hg]
    exact setRow_heap W2 b cs _ 5 _ hg
  have h := run_convert_bytes_back (P := Tryd.prog) (W2.setCell ⟨b, K, none⟩ (.int .u8 (d.toNat : Int))) 28 9 5 ⟨b, 0, none⟩ c (A.data.toList.set K d) Fld.und51 Tryd.underlying5 Tryd.underlying9 (by
    intro j hj
    have hj2 : j < A.size := by omega
    have hadd : (⟨b, 0, none⟩ : Addr).add j = ⟨b, j, none⟩ := by unfold Addr.add; split <;> simp_all
    rw [hadd, cell_of_row _ _ _ _ _ _ hrow, Array.getElem?_setIfInBounds]
    by_cases e : K = j
    · subst e
      have : K < cs.size := by omega
      simp [this]
    · rw [if_neg e, hc j hj2]
      simp [e]
      rfl)
  rw [hl] at h
  exact h

theorem xor_byte (x d : UInt8) : bits .xor .u8 (x.toNat : Int) (d.toNat : Int) = ((x ^^^ d).toNat : Int) := by
  rw [Sm.bits_xor_u8 _ _ (UInt8.toNat_lt _) (UInt8.toNat_lt _), UInt8.toNat_xor]
theorem xor_other (x d : UInt8) (h : d ≠ 0) : x ^^^ d ≠ x := by
  intro e
  apply h
  have h2 : x ^^^ (x ^^^ d) = x ^^^ x := by rw [e]
  rw [← UInt8.xor_assoc, UInt8.xor_self, UInt8.zero_xor] at h2
  exact h2

/-- The law's boxes: the mark. -/
structure Mk (w W : World) (t l : Int) : Prop where
  row : W.heap[w.heap.size]? = some (.cells #[.int .i64 t, .int .i64 l] 24 (0, 0))
  below : Below w.heap.size w W
theorem Mk.step {w W W' : World} {t l : Int} (h : Mk w W t l) (hb : Below W.heap.size W W') : Mk w W' t l := ⟨row_step h.row hb, h.below.trans (hb.mono h.below.size)⟩
theorem Mk.alloc {w W : World} {t l : Int} (h : Mk w W t l) (o : Obj) : Mk w (W.alloc o) t l := h.step ((Below.refl _ _).alloc (Nat.le_refl _) o)
theorem Mk.other {w W : World} {t l : Int} (h : Mk w W t l) (b K : Nat) (v : Value) (hb : w.heap.size < b) : Mk w (W.setCell ⟨b, K, none⟩ v) t l :=
  ⟨(heap_setCell_other W ⟨b, K, none⟩ _ _ (by show _ ≠ b; omega)).trans h.row, h.below.setCell (p := ⟨b, K, none⟩) (Nat.le_of_lt hb) _⟩
theorem Mk.set {w W : World} {t l : Int} (h : Mk w W t l) (u : Int) : Mk w (W.setCell ⟨w.heap.size, 0, none⟩ (.int .i64 u)) u l :=
  ⟨heap_setCell_same W w.heap.size 0 _ 24 _ h.row, h.below.setCell (p := ⟨w.heap.size, 0, none⟩) (Nat.le_refl _) _⟩

set_option maxRecDepth 100000 in
set_option maxHeartbeats 4000000 in
theorem walkTurns (a0 a1 a2 : Int) (w : World) (h0 : 0 ≤ a0) (h1 : 0 ≤ a1) (h2 : 0 ≤ a2) (h2' : a2 ≤ 18446744073709551615) :
    Calls Tryd.prog 3 #[.int .u64 a0, .int .u64 a1, .int .u64 a2] w fun e w' => e = .returned (.bool true) ∧ Below w.heap.size w w' := by
  obtain ⟨t, e0, ht⟩ : ∃ t : Nat, a0.tmod 1000000 = (t : Int) ∧ t < 1000000 := ⟨(a0 % 1000000).toNat, by rw [Int.tmod_eq_emod_of_nonneg h0]; omega, by omega⟩
  obtain ⟨l1, e1, hl1⟩ : ∃ l1 : Nat, a1.tmod 4000000 = (l1 : Int) ∧ l1 < 4000000 := ⟨(a1 % 4000000).toNat, by rw [Int.tmod_eq_emod_of_nonneg h1]; omega, by omega⟩
  obtain ⟨l, e2, hl0, hl⟩ : ∃ l : Nat, (534 : Int) + (l1 : Int) = (l : Int) ∧ 534 ≤ l ∧ l < 4000534 := ⟨534 + l1, by omega, by omega, by omega⟩
  obtain ⟨q, e5, hq⟩ : ∃ q : Nat, a2.tdiv 8 = (q : Int) ∧ q < 2305843009213693952 := ⟨(a2 / 8).toNat, by rw [Int.tdiv_eq_ediv_of_nonneg h2]; omega, by omega⟩
  obtain ⟨p, e3, hp⟩ : ∃ p : Nat, (q : Int).tmod 512 = (p : Int) ∧ p < 512 := ⟨q % 512, by rw [Int.tmod_eq_emod_of_nonneg (by omega)]; omega, by omega⟩
  obtain ⟨k, e4, hk⟩ : ∃ k : Nat, a2.tmod 8 = (k : Int) ∧ k < 8 := ⟨(a2 % 8).toNat, by rw [Int.tmod_eq_emod_of_nonneg h2]; omega, by omega⟩
  have hok : Ok t l := ⟨by omega, hl0, by omega⟩
  have hok' : Ok (t + 1) l := ⟨by omega, hl0, by omega⟩
  have HW1 := hid (fun W => write t l hok W)
  have HRD := hid (fun W => readMark t l hok W)
  have HW2 : Hid (∀ W, Calls Tryd.prog 5 #[markV ((t : Int) + 1) (l : Int)] W fun e w' => e = .returned (.string (markB (t + 1) l)) ∧ Below W.heap.size W w') := hid (fun W => write (t + 1) l hok' W)
  have hlat := later t l (by omega)
  have hz := mark_size t l
  have HOT := hid (fun (c : UInt8) (hc : ∀ h : p < (markB t l).data.toList.length, c ≠ (markB t l).data.toList[p]) t' l' => other t l p c hp hc t' l')
  have t1 : (t : Int) < 1000000 := by omega
  have w0 : IntKind.i64.wrap (t : Int) = (t : Int) := IntWalk.i64_in _ (by omega)
  have w1 : IntKind.i64.wrap (l1 : Int) = (l1 : Int) := IntWalk.i64_in _ (by omega)
  have l2 : (l1 : Int) < 4000000 := by omega
  have w6 : IntKind.i64.wrap ((t : Int) + 1) = (t : Int) + 1 := IntWalk.i64_in _ (by omega)
  have w2 : IntKind.u64.wrap (q : Int) = (q : Int) := IntWalk.u64_in _ (by omega)
  have w3 : IntKind.i64.wrap (p : Int) = (p : Int) := IntWalk.i64_in _ (by omega)
  have w4 : IntKind.u64.wrap (p : Int) = (p : Int) := IntWalk.u64_in _ (by omega)
  have w5 : IntKind.u64.wrap (k : Int) = (k : Int) := IntWalk.u64_in _ (by omega)
  clear hok hok' ht hl1 hq
  generalize markB t l = s at *
  generalize markB (t + 1) l = s2 at *
  have HM0 := hid (⟨heap_alloc_new w _, (Below.refl _ _).alloc (Nat.le_refl _) _⟩ : Mk w (w.alloc (.cells #[.int .i64 (t : Int), .int .i64 (l : Int)] 24)) t l)
  have h512 : (s.size : Int) = 512 := by omega
  have hne : ¬ s2.toList = s.toList := by
    intro e
    rw [ByteArray.toList_eq, ByteArray.toList_eq] at e
    exact hlat (ByteArray.ext (Array.ext' e))
  have hnb : (!(s2.toList == s.toList)) = true := by simp [hne]
  have HSZ := hid hz
  clear hlat hz
  go_enter Tryd.func3, Tryd.ntmps3
  go_upto_region 2 with fail
  generalize w.alloc (.cells #[.int .i64 (t : Int), .int .i64 (l : Int)] 24) = W0 at HM0 ⊢
  obtain ⟨m0, m1⟩ := two_cells HM0.out.row
  go_wp2_with fail
  refine (HW1.out _).mono ?_
  rintro e v1 ⟨rfl, b1⟩
  have HM1 := hid (HM0.out.step b1)
  clear b1 m0 m1 HM0
  go_wp2_with fail
  refine (HRD.out _).mono ?_
  rintro e v2 ⟨rfl, b2⟩
  have HM2 := hid (HM1.out.step b2)
  clear b2 HM1
  go_upto_region 4 with fail
  have HX := hid (heap_alloc_new v2 (.cells #[.int .i64 (t : Int), .int .i64 (l : Int)] 24))
  have HM3 := hid (HM2.out.alloc (.cells #[.int .i64 (t : Int), .int .i64 (l : Int)] 24))
  clear HM2
  generalize v2.alloc (.cells #[.int .i64 (t : Int), .int .i64 (l : Int)] 24) = W3 at HX HM3 ⊢
  generalize v2.heap.size = G at HX ⊢
  obtain ⟨m0, m1⟩ := two_cells HM3.out.row
  obtain ⟨x0, x1⟩ := two_cells HX.out
  go_upto_region 6 with fail
  obtain ⟨c, cs, W4, hcv, hg, hs2, hcs, hbl⟩ := conv_in s W3
  have HM4 := hid (HM3.out.step hbl)
  have hps : p < s.size := by have := HSZ.out; omega
  have hcell : W4.cell? ⟨W3.heap.size, p, none⟩ = some (.int .u8 ((s[p]).toNat : Int)) := by rw [cell_of_row _ _ _ _ _ _ hg]; exact hcs p hps
  have hfz : W4.frozen? ⟨W3.heap.size, p, none⟩ = false := by
    simp [World.frozen?, hg]; omega
  have hlt3 : w.heap.size < W3.heap.size := (Array.getElem?_eq_some_iff.1 HM3.out.row).1
  have HG := hid hg
  have HS2 := hid hs2
  have HCS := hid hcs
  clear hg hs2 hcs hbl HM3 HX m0 m1 x0 x1
  go_upto_region 7 with fail
  clear hcv
  have hp5 : (p : Int) < 512 := by omega
  rcases (show k = 0 ∨ k = 1 ∨ k = 2 ∨ k = 3 ∨ k = 4 ∨ k = 5 ∨ k = 6 ∨ k = 7 by omega) with rfl | rfl | rfl | rfl | rfl | rfl | rfl | rfl
  · have hx : bits .xor .u8 ((s[p]).toNat : Int) 1 = ((s[p] ^^^ 1).toNat : Int) := xor_byte s[p] 1
    have HOX := hid (HOT.out (s[p] ^^^ 1) (fun h => xor_other s[p] 1 (by decide)))
    generalize s[p] ^^^ 1 = y at hx HOX
    have HCO := hid (conv_out s p W3.heap.size c y cs W4 hps HG.out HS2.out HCS.out)
    go_upto_region 8 with fail
    have HM5 := hid (HM4.out.other W3.heap.size p (.int .u8 (y.toNat : Int)) hlt3)
    have HNO := hid (fun W => readNo ⟨(s.data.toList.set p y).toArray⟩ W (by have := HSZ.out; show (s.data.toList.set p y).toArray.size = 512; rw [List.size_toArray, List.length_set]; exact this) (fun t' l' _ e => HOX.out t' l' (by rw [← e])))
    have HCO2 := HCO.out
    generalize W4.setCell ⟨W3.heap.size, p, none⟩ (.int .u8 (y.toNat : Int)) = W5 at HM5 HCO2 ⊢
    generalize (⟨(s.data.toList.set p y).toArray⟩ : ByteArray) = z at HCO2 HNO
    clear HCO HOX hx HCS HS2 HG hcell hfz HM4 HOT hlt3
    go_wp2_with fail
    refine (HNO.out _).mono ?_
    rintro e v5 ⟨rfl, b5⟩
    have HM6 := hid (HM5.out.step b5)
    clear b5 HM5 HCO2 HNO
    go_upto_region 9 with fail
    have HM7 := hid (HM6.out.alloc (.cells #[.int .i64 0, .int .i64 0] 24))
    clear HM6
    generalize v5.alloc (.cells #[.int .i64 0, .int .i64 0] 24) = W6 at HM7 ⊢
    obtain ⟨m0, m1⟩ := two_cells HM7.out.row
    have m2 : W6.frozen? ⟨w.heap.size, 0, none⟩ = false := by simp [World.frozen?, HM7.out.row]
    go_upto_region 10 with fail
    have HM8 := hid (HM7.out.set ((t : Int) + 1))
    clear HM7 m0 m1 m2
    generalize W6.setCell ⟨w.heap.size, 0, none⟩ (.int .i64 ((t : Int) + 1)) = W7 at HM8 ⊢
    obtain ⟨n0, n1⟩ := two_cells HM8.out.row
    go_wp2_with fail
    refine (HW2.out _).mono ?_
    rintro e v8 ⟨rfl, b8⟩
    have HM9 := hid (HM8.out.step b8)
    clear b8 n0 n1 HM8
    go_wp2_with fail
    refine (lives _).mono ?_
    rintro e v9 ⟨rfl, b9⟩
    have HMA := hid (HM9.out.step b9)
    clear b9 HM9
    go_wp2_with fail
    go_ret
    exact ⟨rfl, HMA.out.below⟩
  · have hx : bits .xor .u8 ((s[p]).toNat : Int) 2 = ((s[p] ^^^ 2).toNat : Int) := xor_byte s[p] 2
    have HOX := hid (HOT.out (s[p] ^^^ 2) (fun h => xor_other s[p] 2 (by decide)))
    generalize s[p] ^^^ 2 = y at hx HOX
    have HCO := hid (conv_out s p W3.heap.size c y cs W4 hps HG.out HS2.out HCS.out)
    go_upto_region 8 with fail
    have HM5 := hid (HM4.out.other W3.heap.size p (.int .u8 (y.toNat : Int)) hlt3)
    have HNO := hid (fun W => readNo ⟨(s.data.toList.set p y).toArray⟩ W (by have := HSZ.out; show (s.data.toList.set p y).toArray.size = 512; rw [List.size_toArray, List.length_set]; exact this) (fun t' l' _ e => HOX.out t' l' (by rw [← e])))
    have HCO2 := HCO.out
    generalize W4.setCell ⟨W3.heap.size, p, none⟩ (.int .u8 (y.toNat : Int)) = W5 at HM5 HCO2 ⊢
    generalize (⟨(s.data.toList.set p y).toArray⟩ : ByteArray) = z at HCO2 HNO
    clear HCO HOX hx HCS HS2 HG hcell hfz HM4 HOT hlt3
    go_wp2_with fail
    refine (HNO.out _).mono ?_
    rintro e v5 ⟨rfl, b5⟩
    have HM6 := hid (HM5.out.step b5)
    clear b5 HM5 HCO2 HNO
    go_upto_region 9 with fail
    have HM7 := hid (HM6.out.alloc (.cells #[.int .i64 0, .int .i64 0] 24))
    clear HM6
    generalize v5.alloc (.cells #[.int .i64 0, .int .i64 0] 24) = W6 at HM7 ⊢
    obtain ⟨m0, m1⟩ := two_cells HM7.out.row
    have m2 : W6.frozen? ⟨w.heap.size, 0, none⟩ = false := by simp [World.frozen?, HM7.out.row]
    go_upto_region 10 with fail
    have HM8 := hid (HM7.out.set ((t : Int) + 1))
    clear HM7 m0 m1 m2
    generalize W6.setCell ⟨w.heap.size, 0, none⟩ (.int .i64 ((t : Int) + 1)) = W7 at HM8 ⊢
    obtain ⟨n0, n1⟩ := two_cells HM8.out.row
    go_wp2_with fail
    refine (HW2.out _).mono ?_
    rintro e v8 ⟨rfl, b8⟩
    have HM9 := hid (HM8.out.step b8)
    clear b8 n0 n1 HM8
    go_wp2_with fail
    refine (lives _).mono ?_
    rintro e v9 ⟨rfl, b9⟩
    have HMA := hid (HM9.out.step b9)
    clear b9 HM9
    go_wp2_with fail
    go_ret
    exact ⟨rfl, HMA.out.below⟩
  · have hx : bits .xor .u8 ((s[p]).toNat : Int) 4 = ((s[p] ^^^ 4).toNat : Int) := xor_byte s[p] 4
    have HOX := hid (HOT.out (s[p] ^^^ 4) (fun h => xor_other s[p] 4 (by decide)))
    generalize s[p] ^^^ 4 = y at hx HOX
    have HCO := hid (conv_out s p W3.heap.size c y cs W4 hps HG.out HS2.out HCS.out)
    go_upto_region 8 with fail
    have HM5 := hid (HM4.out.other W3.heap.size p (.int .u8 (y.toNat : Int)) hlt3)
    have HNO := hid (fun W => readNo ⟨(s.data.toList.set p y).toArray⟩ W (by have := HSZ.out; show (s.data.toList.set p y).toArray.size = 512; rw [List.size_toArray, List.length_set]; exact this) (fun t' l' _ e => HOX.out t' l' (by rw [← e])))
    have HCO2 := HCO.out
    generalize W4.setCell ⟨W3.heap.size, p, none⟩ (.int .u8 (y.toNat : Int)) = W5 at HM5 HCO2 ⊢
    generalize (⟨(s.data.toList.set p y).toArray⟩ : ByteArray) = z at HCO2 HNO
    clear HCO HOX hx HCS HS2 HG hcell hfz HM4 HOT hlt3
    go_wp2_with fail
    refine (HNO.out _).mono ?_
    rintro e v5 ⟨rfl, b5⟩
    have HM6 := hid (HM5.out.step b5)
    clear b5 HM5 HCO2 HNO
    go_upto_region 9 with fail
    have HM7 := hid (HM6.out.alloc (.cells #[.int .i64 0, .int .i64 0] 24))
    clear HM6
    generalize v5.alloc (.cells #[.int .i64 0, .int .i64 0] 24) = W6 at HM7 ⊢
    obtain ⟨m0, m1⟩ := two_cells HM7.out.row
    have m2 : W6.frozen? ⟨w.heap.size, 0, none⟩ = false := by simp [World.frozen?, HM7.out.row]
    go_upto_region 10 with fail
    have HM8 := hid (HM7.out.set ((t : Int) + 1))
    clear HM7 m0 m1 m2
    generalize W6.setCell ⟨w.heap.size, 0, none⟩ (.int .i64 ((t : Int) + 1)) = W7 at HM8 ⊢
    obtain ⟨n0, n1⟩ := two_cells HM8.out.row
    go_wp2_with fail
    refine (HW2.out _).mono ?_
    rintro e v8 ⟨rfl, b8⟩
    have HM9 := hid (HM8.out.step b8)
    clear b8 n0 n1 HM8
    go_wp2_with fail
    refine (lives _).mono ?_
    rintro e v9 ⟨rfl, b9⟩
    have HMA := hid (HM9.out.step b9)
    clear b9 HM9
    go_wp2_with fail
    go_ret
    exact ⟨rfl, HMA.out.below⟩
  · have hx : bits .xor .u8 ((s[p]).toNat : Int) 8 = ((s[p] ^^^ 8).toNat : Int) := xor_byte s[p] 8
    have HOX := hid (HOT.out (s[p] ^^^ 8) (fun h => xor_other s[p] 8 (by decide)))
    generalize s[p] ^^^ 8 = y at hx HOX
    have HCO := hid (conv_out s p W3.heap.size c y cs W4 hps HG.out HS2.out HCS.out)
    go_upto_region 8 with fail
    have HM5 := hid (HM4.out.other W3.heap.size p (.int .u8 (y.toNat : Int)) hlt3)
    have HNO := hid (fun W => readNo ⟨(s.data.toList.set p y).toArray⟩ W (by have := HSZ.out; show (s.data.toList.set p y).toArray.size = 512; rw [List.size_toArray, List.length_set]; exact this) (fun t' l' _ e => HOX.out t' l' (by rw [← e])))
    have HCO2 := HCO.out
    generalize W4.setCell ⟨W3.heap.size, p, none⟩ (.int .u8 (y.toNat : Int)) = W5 at HM5 HCO2 ⊢
    generalize (⟨(s.data.toList.set p y).toArray⟩ : ByteArray) = z at HCO2 HNO
    clear HCO HOX hx HCS HS2 HG hcell hfz HM4 HOT hlt3
    go_wp2_with fail
    refine (HNO.out _).mono ?_
    rintro e v5 ⟨rfl, b5⟩
    have HM6 := hid (HM5.out.step b5)
    clear b5 HM5 HCO2 HNO
    go_upto_region 9 with fail
    have HM7 := hid (HM6.out.alloc (.cells #[.int .i64 0, .int .i64 0] 24))
    clear HM6
    generalize v5.alloc (.cells #[.int .i64 0, .int .i64 0] 24) = W6 at HM7 ⊢
    obtain ⟨m0, m1⟩ := two_cells HM7.out.row
    have m2 : W6.frozen? ⟨w.heap.size, 0, none⟩ = false := by simp [World.frozen?, HM7.out.row]
    go_upto_region 10 with fail
    have HM8 := hid (HM7.out.set ((t : Int) + 1))
    clear HM7 m0 m1 m2
    generalize W6.setCell ⟨w.heap.size, 0, none⟩ (.int .i64 ((t : Int) + 1)) = W7 at HM8 ⊢
    obtain ⟨n0, n1⟩ := two_cells HM8.out.row
    go_wp2_with fail
    refine (HW2.out _).mono ?_
    rintro e v8 ⟨rfl, b8⟩
    have HM9 := hid (HM8.out.step b8)
    clear b8 n0 n1 HM8
    go_wp2_with fail
    refine (lives _).mono ?_
    rintro e v9 ⟨rfl, b9⟩
    have HMA := hid (HM9.out.step b9)
    clear b9 HM9
    go_wp2_with fail
    go_ret
    exact ⟨rfl, HMA.out.below⟩
  · have hx : bits .xor .u8 ((s[p]).toNat : Int) 16 = ((s[p] ^^^ 16).toNat : Int) := xor_byte s[p] 16
    have HOX := hid (HOT.out (s[p] ^^^ 16) (fun h => xor_other s[p] 16 (by decide)))
    generalize s[p] ^^^ 16 = y at hx HOX
    have HCO := hid (conv_out s p W3.heap.size c y cs W4 hps HG.out HS2.out HCS.out)
    go_upto_region 8 with fail
    have HM5 := hid (HM4.out.other W3.heap.size p (.int .u8 (y.toNat : Int)) hlt3)
    have HNO := hid (fun W => readNo ⟨(s.data.toList.set p y).toArray⟩ W (by have := HSZ.out; show (s.data.toList.set p y).toArray.size = 512; rw [List.size_toArray, List.length_set]; exact this) (fun t' l' _ e => HOX.out t' l' (by rw [← e])))
    have HCO2 := HCO.out
    generalize W4.setCell ⟨W3.heap.size, p, none⟩ (.int .u8 (y.toNat : Int)) = W5 at HM5 HCO2 ⊢
    generalize (⟨(s.data.toList.set p y).toArray⟩ : ByteArray) = z at HCO2 HNO
    clear HCO HOX hx HCS HS2 HG hcell hfz HM4 HOT hlt3
    go_wp2_with fail
    refine (HNO.out _).mono ?_
    rintro e v5 ⟨rfl, b5⟩
    have HM6 := hid (HM5.out.step b5)
    clear b5 HM5 HCO2 HNO
    go_upto_region 9 with fail
    have HM7 := hid (HM6.out.alloc (.cells #[.int .i64 0, .int .i64 0] 24))
    clear HM6
    generalize v5.alloc (.cells #[.int .i64 0, .int .i64 0] 24) = W6 at HM7 ⊢
    obtain ⟨m0, m1⟩ := two_cells HM7.out.row
    have m2 : W6.frozen? ⟨w.heap.size, 0, none⟩ = false := by simp [World.frozen?, HM7.out.row]
    go_upto_region 10 with fail
    have HM8 := hid (HM7.out.set ((t : Int) + 1))
    clear HM7 m0 m1 m2
    generalize W6.setCell ⟨w.heap.size, 0, none⟩ (.int .i64 ((t : Int) + 1)) = W7 at HM8 ⊢
    obtain ⟨n0, n1⟩ := two_cells HM8.out.row
    go_wp2_with fail
    refine (HW2.out _).mono ?_
    rintro e v8 ⟨rfl, b8⟩
    have HM9 := hid (HM8.out.step b8)
    clear b8 n0 n1 HM8
    go_wp2_with fail
    refine (lives _).mono ?_
    rintro e v9 ⟨rfl, b9⟩
    have HMA := hid (HM9.out.step b9)
    clear b9 HM9
    go_wp2_with fail
    go_ret
    exact ⟨rfl, HMA.out.below⟩
  · have hx : bits .xor .u8 ((s[p]).toNat : Int) 32 = ((s[p] ^^^ 32).toNat : Int) := xor_byte s[p] 32
    have HOX := hid (HOT.out (s[p] ^^^ 32) (fun h => xor_other s[p] 32 (by decide)))
    generalize s[p] ^^^ 32 = y at hx HOX
    have HCO := hid (conv_out s p W3.heap.size c y cs W4 hps HG.out HS2.out HCS.out)
    go_upto_region 8 with fail
    have HM5 := hid (HM4.out.other W3.heap.size p (.int .u8 (y.toNat : Int)) hlt3)
    have HNO := hid (fun W => readNo ⟨(s.data.toList.set p y).toArray⟩ W (by have := HSZ.out; show (s.data.toList.set p y).toArray.size = 512; rw [List.size_toArray, List.length_set]; exact this) (fun t' l' _ e => HOX.out t' l' (by rw [← e])))
    have HCO2 := HCO.out
    generalize W4.setCell ⟨W3.heap.size, p, none⟩ (.int .u8 (y.toNat : Int)) = W5 at HM5 HCO2 ⊢
    generalize (⟨(s.data.toList.set p y).toArray⟩ : ByteArray) = z at HCO2 HNO
    clear HCO HOX hx HCS HS2 HG hcell hfz HM4 HOT hlt3
    go_wp2_with fail
    refine (HNO.out _).mono ?_
    rintro e v5 ⟨rfl, b5⟩
    have HM6 := hid (HM5.out.step b5)
    clear b5 HM5 HCO2 HNO
    go_upto_region 9 with fail
    have HM7 := hid (HM6.out.alloc (.cells #[.int .i64 0, .int .i64 0] 24))
    clear HM6
    generalize v5.alloc (.cells #[.int .i64 0, .int .i64 0] 24) = W6 at HM7 ⊢
    obtain ⟨m0, m1⟩ := two_cells HM7.out.row
    have m2 : W6.frozen? ⟨w.heap.size, 0, none⟩ = false := by simp [World.frozen?, HM7.out.row]
    go_upto_region 10 with fail
    have HM8 := hid (HM7.out.set ((t : Int) + 1))
    clear HM7 m0 m1 m2
    generalize W6.setCell ⟨w.heap.size, 0, none⟩ (.int .i64 ((t : Int) + 1)) = W7 at HM8 ⊢
    obtain ⟨n0, n1⟩ := two_cells HM8.out.row
    go_wp2_with fail
    refine (HW2.out _).mono ?_
    rintro e v8 ⟨rfl, b8⟩
    have HM9 := hid (HM8.out.step b8)
    clear b8 n0 n1 HM8
    go_wp2_with fail
    refine (lives _).mono ?_
    rintro e v9 ⟨rfl, b9⟩
    have HMA := hid (HM9.out.step b9)
    clear b9 HM9
    go_wp2_with fail
    go_ret
    exact ⟨rfl, HMA.out.below⟩
  · have hx : bits .xor .u8 ((s[p]).toNat : Int) 64 = ((s[p] ^^^ 64).toNat : Int) := xor_byte s[p] 64
    have HOX := hid (HOT.out (s[p] ^^^ 64) (fun h => xor_other s[p] 64 (by decide)))
    generalize s[p] ^^^ 64 = y at hx HOX
    have HCO := hid (conv_out s p W3.heap.size c y cs W4 hps HG.out HS2.out HCS.out)
    go_upto_region 8 with fail
    have HM5 := hid (HM4.out.other W3.heap.size p (.int .u8 (y.toNat : Int)) hlt3)
    have HNO := hid (fun W => readNo ⟨(s.data.toList.set p y).toArray⟩ W (by have := HSZ.out; show (s.data.toList.set p y).toArray.size = 512; rw [List.size_toArray, List.length_set]; exact this) (fun t' l' _ e => HOX.out t' l' (by rw [← e])))
    have HCO2 := HCO.out
    generalize W4.setCell ⟨W3.heap.size, p, none⟩ (.int .u8 (y.toNat : Int)) = W5 at HM5 HCO2 ⊢
    generalize (⟨(s.data.toList.set p y).toArray⟩ : ByteArray) = z at HCO2 HNO
    clear HCO HOX hx HCS HS2 HG hcell hfz HM4 HOT hlt3
    go_wp2_with fail
    refine (HNO.out _).mono ?_
    rintro e v5 ⟨rfl, b5⟩
    have HM6 := hid (HM5.out.step b5)
    clear b5 HM5 HCO2 HNO
    go_upto_region 9 with fail
    have HM7 := hid (HM6.out.alloc (.cells #[.int .i64 0, .int .i64 0] 24))
    clear HM6
    generalize v5.alloc (.cells #[.int .i64 0, .int .i64 0] 24) = W6 at HM7 ⊢
    obtain ⟨m0, m1⟩ := two_cells HM7.out.row
    have m2 : W6.frozen? ⟨w.heap.size, 0, none⟩ = false := by simp [World.frozen?, HM7.out.row]
    go_upto_region 10 with fail
    have HM8 := hid (HM7.out.set ((t : Int) + 1))
    clear HM7 m0 m1 m2
    generalize W6.setCell ⟨w.heap.size, 0, none⟩ (.int .i64 ((t : Int) + 1)) = W7 at HM8 ⊢
    obtain ⟨n0, n1⟩ := two_cells HM8.out.row
    go_wp2_with fail
    refine (HW2.out _).mono ?_
    rintro e v8 ⟨rfl, b8⟩
    have HM9 := hid (HM8.out.step b8)
    clear b8 n0 n1 HM8
    go_wp2_with fail
    refine (lives _).mono ?_
    rintro e v9 ⟨rfl, b9⟩
    have HMA := hid (HM9.out.step b9)
    clear b9 HM9
    go_wp2_with fail
    go_ret
    exact ⟨rfl, HMA.out.below⟩
  · have hx : bits .xor .u8 ((s[p]).toNat : Int) 128 = ((s[p] ^^^ 128).toNat : Int) := xor_byte s[p] 128
    have HOX := hid (HOT.out (s[p] ^^^ 128) (fun h => xor_other s[p] 128 (by decide)))
    generalize s[p] ^^^ 128 = y at hx HOX
    have HCO := hid (conv_out s p W3.heap.size c y cs W4 hps HG.out HS2.out HCS.out)
    go_upto_region 8 with fail
    have HM5 := hid (HM4.out.other W3.heap.size p (.int .u8 (y.toNat : Int)) hlt3)
    have HNO := hid (fun W => readNo ⟨(s.data.toList.set p y).toArray⟩ W (by have := HSZ.out; show (s.data.toList.set p y).toArray.size = 512; rw [List.size_toArray, List.length_set]; exact this) (fun t' l' _ e => HOX.out t' l' (by rw [← e])))
    have HCO2 := HCO.out
    generalize W4.setCell ⟨W3.heap.size, p, none⟩ (.int .u8 (y.toNat : Int)) = W5 at HM5 HCO2 ⊢
    generalize (⟨(s.data.toList.set p y).toArray⟩ : ByteArray) = z at HCO2 HNO
    clear HCO HOX hx HCS HS2 HG hcell hfz HM4 HOT hlt3
    go_wp2_with fail
    refine (HNO.out _).mono ?_
    rintro e v5 ⟨rfl, b5⟩
    have HM6 := hid (HM5.out.step b5)
    clear b5 HM5 HCO2 HNO
    go_upto_region 9 with fail
    have HM7 := hid (HM6.out.alloc (.cells #[.int .i64 0, .int .i64 0] 24))
    clear HM6
    generalize v5.alloc (.cells #[.int .i64 0, .int .i64 0] 24) = W6 at HM7 ⊢
    obtain ⟨m0, m1⟩ := two_cells HM7.out.row
    have m2 : W6.frozen? ⟨w.heap.size, 0, none⟩ = false := by simp [World.frozen?, HM7.out.row]
    go_upto_region 10 with fail
    have HM8 := hid (HM7.out.set ((t : Int) + 1))
    clear HM7 m0 m1 m2
    generalize W6.setCell ⟨w.heap.size, 0, none⟩ (.int .i64 ((t : Int) + 1)) = W7 at HM8 ⊢
    obtain ⟨n0, n1⟩ := two_cells HM8.out.row
    go_wp2_with fail
    refine (HW2.out _).mono ?_
    rintro e v8 ⟨rfl, b8⟩
    have HM9 := hid (HM8.out.step b8)
    clear b8 n0 n1 HM8
    go_wp2_with fail
    refine (lives _).mono ?_
    rintro e v9 ⟨rfl, b9⟩
    have HMA := hid (HM9.out.step b9)
    clear b9 HM9
    go_wp2_with fail
    go_ret
    exact ⟨rfl, HMA.out.below⟩
end Com
end Go.Proofs.YthgjijjalfhhcabDoor
