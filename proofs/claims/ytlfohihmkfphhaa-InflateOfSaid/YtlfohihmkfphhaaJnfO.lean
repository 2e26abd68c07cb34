/- INFLATE: the bytes of deflated bytes, by the program. -/
import Derived.Test.YtlfohihmkfphhaaJnfL
namespace Go.Proofs.Ytlfohihmkfphhaa
set_option linter.unusedVariables false
open Go.RowKit
open Go.Proofs.Huf
attribute [local go_sem ↓] Go.wp_at_zero Go.wp_at_succ
namespace Inf
open Huff
theorem conv_own {w : World} {v : Value} {b0 : Nat} {l : List UInt8} (h : OwnB w b0 v l) : (convert 63 9 v).run Try.prog w = .ok (.string ⟨l.toArray⟩) w := by
  rcases h.2 with ⟨rfl, hn⟩ | ⟨g, cap, cur, rfl, hb, hg, _, _, _, htk⟩
  · have : l = [] := List.eq_nil_of_length_eq_zero hn
    subst this
    rw [run_convert_bytes_string w 63 9 5 none 0 0 und63 Try.underlying5 Try.underlying9]
    simp [Conv.bytesToString]
    rfl
  · refine run_convert_bytes_back (P := Try.prog) w 63 9 5 ⟨g, 0, none⟩ cap l und63 Try.underlying5 Try.underlying9 ?_
    intro j hj
    have hadd : (⟨g, 0, none⟩ : Addr).add j = ⟨g, j, none⟩ := by unfold Addr.add; split <;> simp_all
    rw [hadd, cell_of_row w g j cur 5 (0, 0) hg]
    have h1 : (cur.toList.take (l.length * 1))[j]? = (byteCells l)[j]? := by rw [htk]
    rw [Nat.mul_one, List.getElem?_take_of_lt hj] at h1
    rw [← Array.getElem?_toList, h1]
    simp [byteCells, hj]
/-- What is handed back. -/
def ofV : Res (List UInt8) → Value
  | .ok o q => .tuple #[.string ⟨o.toArray⟩, .int .i64 (((q + 7) / 8 : Nat) : Int), .int .i64 0]
  | .bad f => .tuple #[.string ⟨#[]⟩, .int .i64 0, .int .i64 (codeOf f : Int)]
noncomputable def infl (s : ByteArray) (m K : Nat) : Res (List UInt8) := blocksF m K K [] (numS s) (8 * s.size) 0
set_option maxRecDepth 100000 in
set_option maxHeartbeats 2000000 in
theorem ofA (s : ByteArray) (mI : Int) (K : Nat) (w : World) (hs : s.size ≤ 1048576) (hmI : mI < 0) (hK : 8 * s.size < K) :
    Calls Try.prog 19 #[.string s, .int .i64 mI] w fun e w' => e = .returned (ofV (infl s 0 K)) ∧ Below w.heap.size w w' := by
  have hmf : ∀ (fn : Fn) (first cap : Array Value) (w : World), (Instr.makeFunc fn first cap).run Try.prog w = .ok (.func fn first cap) w := fun _ _ _ _ => rfl
  have hb1 := (Below.refl w.heap.size w).alloc (Nat.le_refl _) (.cells #[.string s, .int .i64 0, .bool false] 71)
  have hn1 := heap_alloc_new w (.cells #[.string s, .int .i64 0, .bool false] 71)
  have HST := hid (show St ((w.alloc (.cells #[.string s, .int .i64 0, .bool false] 71)).alloc (.cells #[.pointer (some ⟨w.heap.size, 0, none⟩), .slice none 0 0, .int .i64 0] 65)) (w.heap.size + 1) w.heap.size w.heap.size s 0 (.slice none 0 0) [] 0 from by
    exact ⟨by have := heap_alloc_new (w.alloc (.cells #[.string s, .int .i64 0, .bool false] 71)) (.cells #[.pointer (some ⟨w.heap.size, 0, none⟩), .slice none 0 0, .int .i64 0] 65); rw [show (w.alloc (.cells #[.string s, .int .i64 0, .bool false] 71)).heap.size = w.heap.size + 1 by simp] at this; exact this,
     (Below.heap_alloc _ _ _ (by simp)).trans hn1, World.ownsRow_nil _ _ _ _, by omega, Nat.le_refl _⟩)
  have HB2 := hid (show Below w.heap.size w ((w.alloc (.cells #[.string s, .int .i64 0, .bool false] 71)).alloc (.cells #[.pointer (some ⟨w.heap.size, 0, none⟩), .slice none 0 0, .int .i64 0] 65)) from hb1.alloc (by simp) _)
  have hm65 : 0 ≤ 65000 := by omega
  have HC := hid (fun W (hw : St W (w.heap.size + 1) w.heap.size w.heap.size s 0 (.slice none 0 0) [] 0) => caughtB (w.heap.size + 1) w.heap.size w.heap.size s 0 (.slice none 0 0) [] 0 K K W hw hs (Nat.zero_le _) hm65 (Nat.zero_le _) hK (by omega))
  unfold infl
  clear hb1 hn1
  cases hb : blocksF 0 K K [] (numS s) (8 * s.size) 0 with
  | bad f =>
    simp only [hb] at HC
    clear hb
    have hcf : ((codeOf f : Int) != 0) = true := by
      unfold codeOf
      split
      · rfl
      · split <;> rfl
    have hcf2 : ((codeOf f : Int) == 0) = false := by
      unfold codeOf
      split
      · rfl
      · split <;> rfl
    simp only [ofV]
    generalize codeOf f = cf at *
    go_enter Try.func19, Try.ntmps19
    go_wp2_with fail
    refine (rread s _).mono ?_
    rintro e w1 ⟨rfl, rfl⟩
    go_wp2_with fail
    refine (HC.out _ HST.out).mono ?_
    rintro e w2 ⟨rfl, k2⟩
    have HB3 := hid (HB2.out.trans k2.below)
    clear k2
    go_wp2_with fail
    go_returns
    exact ⟨rfl, HB3.out⟩
  | ok o q =>
    simp only [hb] at HC
    obtain ⟨hq0, hq1⟩ := (good_blocks 0 K K []).mono _ _ _ _ _ ⟨s.size, rfl⟩ (Nat.zero_le _) hb
    clear hb
    simp only [ofV]
    go_enter Try.func19, Try.ntmps19
    go_wp2_with fail
    refine (rread s _).mono ?_
    rintro e w1 ⟨rfl, rfl⟩
    go_wp2_with fail
    refine (HC.out _ HST.out).mono ?_
    rintro e w2 ⟨⟨rfl, v2, h2⟩, k2⟩
    have HB3 := hid (HB2.out.trans k2.below)
    have H2 := hid h2
    have c0 := h2.c0
    have c1 := h2.c1
    have hcv : ∀ n, (convert 63 9 v2).run Try.prog (w2.drewN n) = .ok (.string ⟨o.toArray⟩) (w2.drewN n) := fun n => conv_own (own_grow h2.own ⟨rfl, rfl, rfl, Nat.le_refl _, fun _ _ => rfl⟩)
    have HU := hid (fun n => (rused w.heap.size s q (w2.drewN n) h2.rd (by omega)).mono fun e W' (hh : e = .returned (.int .i64 (((q + 7) / 8 : Nat) : Int)) ∧ w2.drewN n = W') => (show e = .returned (.int .i64 (((q + 7) / 8 : Nat) : Int)) ∧ W' = w2.drewN n from ⟨hh.1, hh.2.symm⟩))
    obtain ⟨A, cap, g, rfl, _⟩ := OwnB.form h2.own
    clear k2 h2
    obtain ⟨tx, htx⟩ : ∃ tx, tx = (⟨o.toArray⟩ : ByteArray) := ⟨_, rfl⟩
    simp only [← htx] at hcv
    generalize o.length = ol at *
    go_upto_region 5 with fail
    go_quiet ((go_at_call 41; exact Calls.quiet_of_same (HU.out _)))
    go_wp2_with fail
    go_returns
    subst htx
    exact ⟨rfl, HB3.out.trans ⟨rfl, rfl, rfl, Nat.le_refl _, fun _ _ => rfl⟩⟩
set_option maxRecDepth 100000 in
set_option maxHeartbeats 2000000 in
theorem ofB (s : ByteArray) (m K : Nat) (w : World) (hs : s.size ≤ 1048576) (hm : m ≤ 65000) (hK : 8 * s.size < K) :
    Calls Try.prog 19 #[.string s, .int .i64 (m : Int)] w fun e w' => e = .returned (ofV (infl s m K)) ∧ Below w.heap.size w w' := by
  have hmf : ∀ (fn : Fn) (first cap : Array Value) (w : World), (Instr.makeFunc fn first cap).run Try.prog w = .ok (.func fn first cap) w := fun _ _ _ _ => rfl
  have hb1 := (Below.refl w.heap.size w).alloc (Nat.le_refl _) (.cells #[.string s, .int .i64 0, .bool false] 71)
  have hn1 := heap_alloc_new w (.cells #[.string s, .int .i64 0, .bool false] 71)
  have HST := hid (show St ((w.alloc (.cells #[.string s, .int .i64 0, .bool false] 71)).alloc (.cells #[.pointer (some ⟨w.heap.size, 0, none⟩), .slice none 0 0, .int .i64 (m : Int)] 65)) (w.heap.size + 1) w.heap.size w.heap.size s 0 (.slice none 0 0) [] m from by
    exact ⟨by have := heap_alloc_new (w.alloc (.cells #[.string s, .int .i64 0, .bool false] 71)) (.cells #[.pointer (some ⟨w.heap.size, 0, none⟩), .slice none 0 0, .int .i64 (m : Int)] 65); rw [show (w.alloc (.cells #[.string s, .int .i64 0, .bool false] 71)).heap.size = w.heap.size + 1 by simp] at this; exact this,
     (Below.heap_alloc _ _ _ (by simp)).trans hn1, World.ownsRow_nil _ _ _ _, by omega, Nat.le_refl _⟩)
  have HB2 := hid (show Below w.heap.size w ((w.alloc (.cells #[.string s, .int .i64 0, .bool false] 71)).alloc (.cells #[.pointer (some ⟨w.heap.size, 0, none⟩), .slice none 0 0, .int .i64 (m : Int)] 65)) from hb1.alloc (by simp) _)
  have hm65 : m ≤ 65000 := by omega
  have HC := hid (fun W (hw : St W (w.heap.size + 1) w.heap.size w.heap.size s 0 (.slice none 0 0) [] m) => caughtB (w.heap.size + 1) w.heap.size w.heap.size s 0 (.slice none 0 0) [] m K K W hw hs (Nat.zero_le _) hm65 (Nat.zero_le _) hK (by omega))
  have g1 : ¬ (m : Int) < 0 := by omega
  have g2 : ¬ (65000 : Int) < (m : Int) := by omega
  unfold infl
  clear hb1 hn1
  cases hb : blocksF m K K [] (numS s) (8 * s.size) 0 with
  | bad f =>
    simp only [hb] at HC
    clear hb
    have hcf : ((codeOf f : Int) != 0) = true := by
      unfold codeOf
      split
      · rfl
      · split <;> rfl
    have hcf2 : ((codeOf f : Int) == 0) = false := by
      unfold codeOf
      split
      · rfl
      · split <;> rfl
    simp only [ofV]
    generalize codeOf f = cf at *
    go_enter Try.func19, Try.ntmps19
    go_wp2_with fail
    refine (rread s _).mono ?_
    rintro e w1 ⟨rfl, rfl⟩
    go_wp2_with fail
    refine (HC.out _ HST.out).mono ?_
    rintro e w2 ⟨rfl, k2⟩
    have HB3 := hid (HB2.out.trans k2.below)
    clear k2
    go_wp2_with fail
    go_returns
    exact ⟨rfl, HB3.out⟩
  | ok o q =>
    simp only [hb] at HC
    obtain ⟨hq0, hq1⟩ := (good_blocks m K K []).mono _ _ _ _ _ ⟨s.size, rfl⟩ (Nat.zero_le _) hb
    clear hb
    simp only [ofV]
    go_enter Try.func19, Try.ntmps19
    go_wp2_with fail
    refine (rread s _).mono ?_
    rintro e w1 ⟨rfl, rfl⟩
    go_wp2_with fail
    refine (HC.out _ HST.out).mono ?_
    rintro e w2 ⟨⟨rfl, v2, h2⟩, k2⟩
    have HB3 := hid (HB2.out.trans k2.below)
    have H2 := hid h2
    have c0 := h2.c0
    have c1 := h2.c1
    have hcv : ∀ n, (convert 63 9 v2).run Try.prog (w2.drewN n) = .ok (.string ⟨o.toArray⟩) (w2.drewN n) := fun n => conv_own (own_grow h2.own ⟨rfl, rfl, rfl, Nat.le_refl _, fun _ _ => rfl⟩)
    have HU := hid (fun n => (rused w.heap.size s q (w2.drewN n) h2.rd (by omega)).mono fun e W' (hh : e = .returned (.int .i64 (((q + 7) / 8 : Nat) : Int)) ∧ w2.drewN n = W') => (show e = .returned (.int .i64 (((q + 7) / 8 : Nat) : Int)) ∧ W' = w2.drewN n from ⟨hh.1, hh.2.symm⟩))
    obtain ⟨A, cap, g, rfl, _⟩ := OwnB.form h2.own
    clear k2 h2
    obtain ⟨tx, htx⟩ : ∃ tx, tx = (⟨o.toArray⟩ : ByteArray) := ⟨_, rfl⟩
    simp only [← htx] at hcv
    generalize o.length = ol at *
    go_upto_region 5 with fail
    go_quiet ((go_at_call 41; exact Calls.quiet_of_same (HU.out _)))
    go_wp2_with fail
    go_returns
    subst htx
    exact ⟨rfl, HB3.out.trans ⟨rfl, rfl, rfl, Nat.le_refl _, fun _ _ => rfl⟩⟩
set_option maxRecDepth 100000 in
set_option maxHeartbeats 2000000 in
theorem ofC (s : ByteArray) (mI : Int) (K : Nat) (w : World) (hs : s.size ≤ 1048576) (hmI : 65000 < mI) (hK : 8 * s.size < K) :
    Calls Try.prog 19 #[.string s, .int .i64 mI] w fun e w' => e = .returned (ofV (infl s 65000 K)) ∧ Below w.heap.size w w' := by
  have hmf : ∀ (fn : Fn) (first cap : Array Value) (w : World), (Instr.makeFunc fn first cap).run Try.prog w = .ok (.func fn first cap) w := fun _ _ _ _ => rfl
  have hb1 := (Below.refl w.heap.size w).alloc (Nat.le_refl _) (.cells #[.string s, .int .i64 0, .bool false] 71)
  have hn1 := heap_alloc_new w (.cells #[.string s, .int .i64 0, .bool false] 71)
  have HST := hid (show St ((w.alloc (.cells #[.string s, .int .i64 0, .bool false] 71)).alloc (.cells #[.pointer (some ⟨w.heap.size, 0, none⟩), .slice none 0 0, .int .i64 65000] 65)) (w.heap.size + 1) w.heap.size w.heap.size s 0 (.slice none 0 0) [] 65000 from by
    exact ⟨by have := heap_alloc_new (w.alloc (.cells #[.string s, .int .i64 0, .bool false] 71)) (.cells #[.pointer (some ⟨w.heap.size, 0, none⟩), .slice none 0 0, .int .i64 65000] 65); rw [show (w.alloc (.cells #[.string s, .int .i64 0, .bool false] 71)).heap.size = w.heap.size + 1 by simp] at this; exact this,
     (Below.heap_alloc _ _ _ (by simp)).trans hn1, World.ownsRow_nil _ _ _ _, by omega, Nat.le_refl _⟩)
  have HB2 := hid (show Below w.heap.size w ((w.alloc (.cells #[.string s, .int .i64 0, .bool false] 71)).alloc (.cells #[.pointer (some ⟨w.heap.size, 0, none⟩), .slice none 0 0, .int .i64 65000] 65)) from hb1.alloc (by simp) _)
  have hm65 : 65000 ≤ 65000 := by omega
  have HC := hid (fun W (hw : St W (w.heap.size + 1) w.heap.size w.heap.size s 0 (.slice none 0 0) [] 65000) => caughtB (w.heap.size + 1) w.heap.size w.heap.size s 0 (.slice none 0 0) [] 65000 K K W hw hs (Nat.zero_le _) hm65 (Nat.zero_le _) hK (by omega))
  have g1 : ¬ mI < 0 := by omega
  unfold infl
  clear hb1 hn1
  cases hb : blocksF 65000 K K [] (numS s) (8 * s.size) 0 with
  | bad f =>
    simp only [hb] at HC
    clear hb
    have hcf : ((codeOf f : Int) != 0) = true := by
      unfold codeOf
      split
      · rfl
      · split <;> rfl
    have hcf2 : ((codeOf f : Int) == 0) = false := by
      unfold codeOf
      split
      · rfl
      · split <;> rfl
    simp only [ofV]
    generalize codeOf f = cf at *
    go_enter Try.func19, Try.ntmps19
    go_wp2_with fail
    refine (rread s _).mono ?_
    rintro e w1 ⟨rfl, rfl⟩
    go_wp2_with fail
    refine (HC.out _ HST.out).mono ?_
    rintro e w2 ⟨rfl, k2⟩
    have HB3 := hid (HB2.out.trans k2.below)
    clear k2
    go_wp2_with fail
    go_returns
    exact ⟨rfl, HB3.out⟩
  | ok o q =>
    simp only [hb] at HC
    obtain ⟨hq0, hq1⟩ := (good_blocks 65000 K K []).mono _ _ _ _ _ ⟨s.size, rfl⟩ (Nat.zero_le _) hb
    clear hb
    simp only [ofV]
    go_enter Try.func19, Try.ntmps19
    go_wp2_with fail
    refine (rread s _).mono ?_
    rintro e w1 ⟨rfl, rfl⟩
    go_wp2_with fail
    refine (HC.out _ HST.out).mono ?_
    rintro e w2 ⟨⟨rfl, v2, h2⟩, k2⟩
    have HB3 := hid (HB2.out.trans k2.below)
    have H2 := hid h2
    have c0 := h2.c0
    have c1 := h2.c1
    have hcv : ∀ n, (convert 63 9 v2).run Try.prog (w2.drewN n) = .ok (.string ⟨o.toArray⟩) (w2.drewN n) := fun n => conv_own (own_grow h2.own ⟨rfl, rfl, rfl, Nat.le_refl _, fun _ _ => rfl⟩)
    have HU := hid (fun n => (rused w.heap.size s q (w2.drewN n) h2.rd (by omega)).mono fun e W' (hh : e = .returned (.int .i64 (((q + 7) / 8 : Nat) : Int)) ∧ w2.drewN n = W') => (show e = .returned (.int .i64 (((q + 7) / 8 : Nat) : Int)) ∧ W' = w2.drewN n from ⟨hh.1, hh.2.symm⟩))
    obtain ⟨A, cap, g, rfl, _⟩ := OwnB.form h2.own
    clear k2 h2
    obtain ⟨tx, htx⟩ : ∃ tx, tx = (⟨o.toArray⟩ : ByteArray) := ⟨_, rfl⟩
    simp only [← htx] at hcv
    generalize o.length = ol at *
    go_upto_region 5 with fail
    go_quiet ((go_at_call 41; exact Calls.quiet_of_same (HU.out _)))
    go_wp2_with fail
    go_returns
    subst htx
    exact ⟨rfl, HB3.out.trans ⟨rfl, rfl, rfl, Nat.le_refl _, fun _ _ => rfl⟩⟩
theorem ofW (s : ByteArray) (mI : Int) (m K : Nat) (w : World) (hs : s.size ≤ 1048576) (hm : min (max mI 0) 65000 = (m : Int)) (hK : 8 * s.size < K) :
    Calls Try.prog 19 #[.string s, .int .i64 mI] w fun e w' => e = .returned (ofV (infl s m K)) ∧ Below w.heap.size w w' := by
  by_cases h1 : mI < 0
  · obtain rfl : m = 0 := by omega
    exact ofA s mI K w hs h1 hK
  · by_cases h2 : 65000 < mI
    · obtain rfl : m = 65000 := by omega
      exact ofC s mI K w hs h2 hK
    · obtain rfl : mI = (m : Int) := by omega
      exact ofB s m K w hs (by omega) hK
end Inf
end Go.Proofs.Ytlfohihmkfphhaa
