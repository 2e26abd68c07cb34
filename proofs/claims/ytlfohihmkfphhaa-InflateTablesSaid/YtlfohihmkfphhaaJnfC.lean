/- INFLATE: a block's own lengths, of the program: runs, the row, the lengths of lengths. -/
import Derived.Test.YtlfohihmkfphhaaJnfA
import Derived.Test.YtlfohihmkfphhaaJnfD
namespace Go.Proofs.Ytlfohihmkfphhaa
set_option linter.unusedVariables false
open Go.RowKit
open Go.Proofs.Huf
attribute [local go_sem ↓] Go.wp_at_zero Go.wp_at_succ
namespace Inf
open Huff
theorem OwnI.cell {w : World} {B g n cap : Nat} {l : List Nat} (h : OwnI w B (.slice (some ⟨g, 0, none⟩) n cap) l) (i : Nat) (hi : i < l.length) : w.cell? ⟨g, i, none⟩ = some (.int .i64 ((l.getD i 0 : Nat) : Int)) := by
  obtain ⟨A, cap', g', e, hc⟩ := OwnI.form h
  obtain ⟨h1, _, h3⟩ := hc i hi
  rw [h1] at e
  simp at e
  rw [e.1]
  exact h3
/-- Two numbers handed back. -/
abbrev runK (S G B : Nat) (s : ByteArray) (v : Value) (out : List UInt8) (most : Nat) (r : Nat × Nat) (q : Nat) (x : Value) (w' : World) : Prop := x = .tuple #[.int .i64 (r.1 : Int), .int .i64 (r.2 : Int)] ∧ St w' S G B s q v out most
set_option maxRecDepth 100000 in
set_option maxHeartbeats 2000000 in
/-- Which length a symbol stands for, and how many times. -/
theorem runW (S G B : Nat) (s : ByteArray) (p c : Nat) (v : Value) (out : List UInt8) (most : Nat) (l : List Nat) (C : Nat) (rv : Value) (w : World) (h : St w S G B s p v out most) (hs : s.size ≤ 1048576) (hp : p ≤ 8 * s.size) (hc : c < 19) (hl : l.length ≤ 400) (ho : OwnI w C rv l) :
    Calls Try.prog 91 #[.pointer (some ⟨S, 0, none⟩), .int .i64 (c : Int), rv] w fun e w' => Did (runP c l (numS s) (8 * s.size) p) (runK S G B s v out most) e w' ∧ Kp TP B w w' := by
  have HT := hid h
  have HNM := hid (fun n (hn : n ≤ 16) W (hw : St W S G B s p v out most) => num S G B s p n v out most W hw hs hn hp)
  obtain ⟨A, cap, g, rfl, hcell⟩ := OwnI.form ho
  have HOI := hid ho
  clear h ho
  unfold runP
  by_cases h16 : c = 16
  · subst h16
    rw [if_pos rfl]
    by_cases h0 : l.length = 0
    · rw [if_pos h0]
      have b0 : ((l.length : Int) == 0) = true := by simp [h0]
      clear hcell h0
      go_enter Try.func91, Try.ntmps91
      go_wp2_with fail
      exact ⟨rfl, rfl, Kp.refl _ _ _⟩
    · rw [if_neg h0]
      have b0 : ((l.length : Int) == 0) = false := beq_eq_false_iff_ne.2 (by omega)
      obtain ⟨hA, hg, hcl⟩ := hcell (l.length - 1) (by omega)
      subst hA
      have HCL := hid (fun W (hw : OwnI W C (.slice (some ⟨g, 0, none⟩) l.length cap) l) => OwnI.cell hw (l.length - 1) (by omega))
      obtain ⟨k, hk⟩ : ∃ k : Nat, l.length = k + 1 := ⟨l.length - 1, by omega⟩
      have hk1 : l.length - 1 = k := by omega
      rw [hk1] at hcl HCL ⊢
      generalize l.getD k 0 = x at hcl HCL ⊢
      have HN := hid (HNM.out 2 (by omega) w.drew (HT.out.grow (Below.refl _ _).drew))
      obtain ⟨n, hn⟩ : ∃ n : Nat, l.length = n := ⟨_, rfl⟩
      rw [hn] at hk b0 hl HCL HOI
      rw [hn]
      have e1 : IntKind.i64.wrap ((n : Int) - 1) = (k : Int) := by rw [IntWalk.i64_in _ (by omega)]; omega
      have g1 : (k : Int) < (n : Int) := by omega
      have g2 : k < n := by omega
      have HLN := hid hn
      have HK1 := hid hk
      clear hn hk hk1 hcell
      cases ht : take 2 (numS s) (8 * s.size) p with
      | bad f =>
        rw [ht] at HN
        rw [bind_bad ht]
        clear ht
        go_enter Try.func91, Try.ntmps91
        go_upto_region 5 with fail
        go_region_with ((go_at_call 63; refine HN.out.mono ?_; rintro e w2 ⟨hd, k2⟩; obtain rfl := hd.bad; clear hd; have K2 := hid ((show Kp TP B w w.drew from (Kp.refl _ _ _).trans ⟨⟨rfl, rfl, rfl, Nat.le_refl _, fun _ _ => rfl⟩, fun _ _ _ _ h _ => h, fun _ cs _ h ho => ⟨cs, h, rfl, ho⟩⟩).trans k2); clear k2; refine (fun (_ : wpAny Try.prog .any #[] (fun _ _ _ => True) 0 #[] { tmps := #[], defers := [] } w2) => ⟨rfl, rfl, K2.out⟩) ?_))
        all_goals trivial
      | ok m q =>
        rw [ht] at HN
        rw [bind_ok ht]
        have hm := take_lt ht
        clear ht
        have e3 : IntKind.i64.wrap (3 + (m : Int)) = ((3 + m : Nat) : Int) := by rw [IntWalk.i64_in _ (by omega)]; omega
        go_enter Try.func91, Try.ntmps91
        go_upto_region 5 with fail
        go_region_held3 (fun w' => w'.cell? ⟨g, k, none⟩ = some (.int .i64 (x : Int))) (first | exact hcl | exact HCX.out | go_keep)
          ((go_at_call 63; refine HN.out.mono ?_; rintro e w2 ⟨⟨_, rfl, rfl, h2⟩, k2⟩; have H2 := hid h2; have K2 := hid ((show Kp TP B w w.drew from (Kp.refl _ _ _).trans ⟨⟨rfl, rfl, rfl, Nat.le_refl _, fun _ _ => rfl⟩, fun _ _ _ _ h _ => h, fun _ cs _ h ho => ⟨cs, h, rfl, ho⟩⟩).trans k2); have HCX := hid (HCL.out _ (OwnI.kp HOI.out K2.out)); clear h2 k2))
        all_goals go_wp2_with fail
        all_goals go_ret2
        all_goals exact ⟨⟨_, rfl, rfl, by first | exact H2.out | exact H2.out.grow (Below.refl _ _).drew⟩, by first | exact K2.out | exact K2.out.trans (Kp.of_below (Below.refl _ _).drew H2.out.size)⟩
  · rw [if_neg h16]
    have b16 : ((c : Int) == 16) = false := by simp; omega
    clear hcell
    by_cases h17 : c = 17
    · subst h17
      rw [if_pos rfl]
      have HN := hid (HNM.out 3 (by omega) w HT.out)
      cases ht : take 3 (numS s) (8 * s.size) p with
      | bad f =>
        rw [ht] at HN
        rw [bind_bad ht]
        clear ht
        go_enter Try.func91, Try.ntmps91
        go_wp2_with fail
        refine HN.out.mono ?_
        rintro e w2 ⟨hd, k2⟩
        obtain rfl := hd.bad
        clear hd
        have K2 := hid k2
        clear k2
        go_wp2_with fail
        exact ⟨rfl, rfl, K2.out⟩
      | ok m q =>
        rw [ht] at HN
        rw [bind_ok ht]
        have hm := take_lt ht
        clear ht
        go_enter Try.func91, Try.ntmps91
        go_wp2_with fail
        refine HN.out.mono ?_
        rintro e w2 ⟨⟨_, rfl, rfl, h2⟩, k2⟩
        have H2 := hid h2
        have K2 := hid k2
        clear h2 k2
        have e1 : IntKind.i64.wrap (3 + (m : Int)) = ((3 + m : Nat) : Int) := by rw [IntWalk.i64_in _ (by omega)]; omega
        go_wp2_with fail
        go_ret2
        exact ⟨⟨_, rfl, rfl, H2.out⟩, K2.out⟩
    · rw [if_neg h17]
      have b17 : ((c : Int) == 17) = false := by simp; omega
      by_cases h18 : c = 18
      · subst h18
        rw [if_pos rfl]
        have HN := hid (HNM.out 7 (by omega) w HT.out)
        cases ht : take 7 (numS s) (8 * s.size) p with
        | bad f =>
          rw [ht] at HN
          rw [bind_bad ht]
          clear ht
          go_enter Try.func91, Try.ntmps91
          go_wp2_with fail
          refine HN.out.mono ?_
          rintro e w2 ⟨hd, k2⟩
          obtain rfl := hd.bad
          clear hd
          have K2 := hid k2
          clear k2
          go_wp2_with fail
          exact ⟨rfl, rfl, K2.out⟩
        | ok m q =>
          rw [ht] at HN
          rw [bind_ok ht]
          have hm := take_lt ht
          clear ht
          go_enter Try.func91, Try.ntmps91
          go_wp2_with fail
          refine HN.out.mono ?_
          rintro e w2 ⟨⟨_, rfl, rfl, h2⟩, k2⟩
          have H2 := hid h2
          have K2 := hid k2
          clear h2 k2
          have e1 : IntKind.i64.wrap (11 + (m : Int)) = ((11 + m : Nat) : Int) := by rw [IntWalk.i64_in _ (by omega)]; omega
          go_wp2_with fail
          go_ret2
          exact ⟨⟨_, rfl, rfl, H2.out⟩, K2.out⟩
      · rw [if_neg h18]
        have b18 : ((c : Int) == 18) = false := by simp; omega
        go_enter Try.func91, Try.ntmps91
        go_wp2_with fail
        go_ret2
        exact ⟨⟨_, rfl, rfl, HT.out⟩, Kp.refl _ _ _⟩
set_option maxRecDepth 100000 in
set_option maxHeartbeats 1000000 in
/-- The order of the lengths of lengths. -/
theorem orderW (w : World) : Calls Try.prog 46 #[] w fun e w' => e = .returned (.slice (some ⟨w.heap.size, 0, none⟩) 19 19) ∧ w' = w.alloc (.cells #[.int .i64 16, .int .i64 17, .int .i64 18, .int .i64 0, .int .i64 8, .int .i64 7, .int .i64 9, .int .i64 6, .int .i64 10, .int .i64 5, .int .i64 11, .int .i64 4, .int .i64 12, .int .i64 3, .int .i64 13, .int .i64 2, .int .i64 14, .int .i64 1, .int .i64 15] 3) := by
  go_enter Try.func46, Try.ntmps46
  go_wp2_with fail
  go_ret
  exact ⟨rfl, rfl⟩
end Inf
end Go.Proofs.Ytlfohihmkfphhaa
