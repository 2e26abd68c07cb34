/- LZ: the iterator over how far back the bytes of a place stood. -/
import Derived.Test.YtlhgkemiakekoaaLzR
import Derived.Sort.CutIn
import Derived.RegionIn
namespace Go.Proofs.Ytlhgkemiakekoaa
set_option linter.unusedVariables false
open Go.RowKit Go.Shelf
attribute [local go_sem] Oper.semAt_some
namespace Lz
/-- So far back, where three bytes at least stood as they stand here. -/
def IsBk (s : ByteArray) (p k : Nat) : Prop := 1 ≤ k ∧ k ≤ p ∧ k ≤ 32768 ∧ p + 3 ≤ s.size ∧ byteT s (p - k) = byteT s p ∧ byteT s (p - k + 1) = byteT s (p + 1) ∧ byteT s (p - k + 2) = byteT s (p + 2)
/-- A short text; and where three bytes at least stand that stood ahead of here. -/
def Rep (s : ByteArray) (p : Nat) : Prop := s.size ≤ 600 ∧ p + 3 ≤ s.size ∧ ∃ q : Nat, q < p ∧ byteT s q = byteT s p ∧ byteT s (q + 1) = byteT s (p + 1) ∧ byteT s (q + 2) = byteT s (p + 2)
abbrev Bk (s : ByteArray) (p : Nat) := {k : Nat // IsBk s p k}
/-- The chains, and the iterator's boxes. -/
structure St (W : World) (s : ByteArray) (G B R p B2 B3 : Nat) : Prop where
  ch : Ch W s G B R p
  b2 : W.heap[B2]? = some (.cells #[.pointer (some ⟨G, 0, none⟩)] 43 (0, 0))
  b3 : W.heap[B3]? = some (.cells #[.int .i64 p] 3 (0, 0))
theorem St.step {W W' : World} {s : ByteArray} {G B R p B2 B3 : Nat} (h : St W s G B R p B2 B3) (hb : Below W.heap.size W W') : St W' s G B R p B2 B3 := ⟨h.ch.step hb, row_b h.b2 hb, row_b h.b3 hb⟩
theorem St.drew {W : World} {s : ByteArray} {G B R p B2 B3 : Nat} (h : St W s G B R p B2 B3) : St W.drew s G B R p B2 B3 := h.step (Below.refl _ _).drew
/-- What is left by whatever writes no row of cells, and not the map. -/
theorem St.kept {W W' : World} {s : ByteArray} {G B R p B2 B3 : Nat} {row : Option Nat} (h : St W s G B R p B2 B3) (hg : W.grownBy W' row) (hr : ∀ r, row = some r → r ≠ B ∧ ∃ o : Obj, W.heap[r]? = some o ∧ o.isCells = false) : St W' s G B R p B2 B3 := by
  obtain ⟨D, h1, h2, h3⟩ := h.ch.mp
  obtain ⟨cs, f, h4, h5⟩ := h.ch.rR
  exact ⟨⟨row_kept h.ch.rG hg (fun r e => (hr r e).2), ⟨D, h1.kept hg (fun e => (hr B e.symm).1 rfl), h2, h3⟩, ⟨cs, f, row_kept h4 hg (fun r e => (hr r e).2), h5⟩, h.ch.ne1, h.ch.ne2, h.ch.ne3⟩, row_kept h.b2 hg (fun r e => (hr r e).2), row_kept h.b3 hg (fun r e => (hr r e).2)⟩

set_option maxRecDepth 100000 in
set_option maxHeartbeats 4000000 in
theorem iter (n : Nat) (hn : 1 ≤ n) (l G B R p B2 B3 : Nat) (s : ByteArray) (hs : s.size ≤ 1000000) (hp : p < s.size) (J Jx : List (Bk s p) → World → Prop) (W : World)
    (hJ : ∀ W', Below W.heap.size W W' → J [] W') (hS : St W s G B R p B2 B3)
    (hY : ∀ (pre : List (Bk s p)) (x : Bk s p) (W : World), J pre W → pre.length < p + 1 → YieldAt Fence.wide (n - 1) Try.prog l #[.int .i64 (x.1 : Int)] W fun e W' =>
      (e = .returned (.bool true) ∧ J (pre ++ [x]) W' ∧ (St W s G B R p B2 B3 → St W' s G B R p B2 B3)) ∨ (e = .returned (.bool false) ∧ Jx (pre ++ [x]) W')) :
    CallsIn Fence.wide n Try.prog 26 #[.func (.yield l) #[] #[], .pointer (some ⟨B2, 0, none⟩), .pointer (some ⟨B3, 0, none⟩)] W fun e W' => (∃ v, e = .returned v) ∧
      ((∃ ys : List (Bk s p), (Rep s p → ys ≠ []) ∧ J ys W') ∨ (∃ pre : List (Bk s p), True ∧ Jx pre W')) := by
  have HJ := hid hJ
  have HS := hid hS
  obtain ⟨l1, l2, l3⟩ := hS.ch.lt
  have c2 := cell1 hS.b2
  have c3 := cell1 hS.b3
  by_cases h3 : p + 3 ≤ s.size
  · have HK := hid (keyAt_yes s p G W hs h3 l1 hS.ch.cG.1)
    clear hJ hS
    refine callsIn_of_wp Try.func26 rfl trivial ?_ rfl
    simp only [Try.ntmps26, List.size_toArray, List.length_cons, List.length_nil, Nat.reduceAdd, Nat.reduceSub, Array.replicate_succ, Array.replicate_zero, List.push_toArray, List.append_toArray, List.nil_append, List.cons_append]
    gi_wp2
    refine ⟨trivial, (callsIn_wide.2 HK.out).mono ?_⟩
    rintro e w1 ⟨rfl, b1⟩
    have S1 := hid (HS.out.step b1)
    have HB1 := hid b1
    clear b1 c2 c3
    gi_upto_region 2 with fail
    have S2 := hid (S1.out.step ((Below.refl w1.heap.size w1).alloc (Nat.le_refl _) (.cells #[.int .u8 (byteT s p : Nat), .int .u8 (byteT s (p + 1) : Nat), .int .u8 (byteT s (p + 2) : Nat)] 57)))
    have HB2 := hid (HB1.out.alloc HB1.out.size (.cells #[.int .u8 (byteT s p : Nat), .int .u8 (byteT s (p + 1) : Nat), .int .u8 (byteT s (p + 2) : Nat)] 57))
    have RK := hid (heap_alloc_new w1 (.cells #[.int .u8 (byteT s p : Nat), .int .u8 (byteT s (p + 1) : Nat), .int .u8 (byteT s (p + 2) : Nat)] 57))
    generalize w1.alloc (.cells #[.int .u8 (byteT s p : Nat), .int .u8 (byteT s (p + 1) : Nat), .int .u8 (byteT s (p + 2) : Nat)] 57) = W2 at S2 HB2 RK ⊢
    obtain ⟨v, hrun, hv⟩ := S2.out.ch.drew.look p
    have HV := hid hv.1
    have HV2 := hid hv.2
    obtain ⟨cG0, cG1, cG2⟩ := S2.out.ch.cG
    have c2 := cell1 S2.out.b2
    have c3 := cell1 S2.out.b3
    have k0 := cell30 RK.out
    have k1 : W2.cell? ⟨w1.heap.size, 1, none⟩ = some (.int .u8 (byteT s (p + 1) : Nat)) := by rw [cell_of_row _ _ _ _ _ _ RK.out]; rfl
    have k2 : W2.cell? ⟨w1.heap.size, 2, none⟩ = some (.int .u8 (byteT s (p + 2) : Nat)) := by rw [cell_of_row _ _ _ _ _ _ RK.out]; rfl
    clear hv
    gi_region
    have S3 := hid S2.out.drew
    have HJ3 := hid (HJ.out _ HB2.out.drew)
    clear cG0 cG1 cG2 c2 c3 k0 k1 k2 hrun
    generalize W2.drew = W3 at S3 HJ3 ⊢
    gi_wp2
    gi_loopw [6] (fun x wr => ∃ (pre : List (Bk s p)) (y : Int), x = .int .i64 y ∧ (y = 0 ∨ ∃ q : Nat, y = (q : Int) + 1 ∧ pre.length + q < p ∧ byteT s q = byteT s p ∧ byteT s (q + 1) = byteT s (p + 1) ∧ byteT s (q + 2) = byteT s (p + 2)) ∧ (Rep s p → pre ≠ [] ∨ y ≠ 0) ∧ J pre wr ∧ St wr s G B R p B2 B3) (fun x _ => (intOf x).toNat)
    case atStart =>
      refine ⟨[], v, rfl, ?_, fun r => .inr (fun e => by obtain ⟨_, r2, q, r3, r4, r5, r6⟩ := r; exact HV2.out e q r3 (by omega) ⟨by omega, by omega, by omega⟩), HJ3.out, S3.out⟩
      rcases HV.out with h | ⟨q, h1, h2, h4, h5, h6, h7⟩
      · exact .inl h
      · exact .inr ⟨q, h1, by simpa using h2, by omega, by omega, by omega⟩
    case round =>
      obtain ⟨pre, y, rfl, hy, hrp, hJs, hst⟩ := hrel
      have HRP := hid hrp
      clear hrp
      have HJs := hid hJs
      have SR := hid hst
      clear hJs hst
      have c2 := cell1 SR.out.b2
      have c3 := cell1 SR.out.b3
      rcases hy with rfl | ⟨q, rfl, hq1, hq2, hq3, hq4⟩
      · gi_wp2
        go_end0
        exact ⟨⟨_, rfl⟩, .inl ⟨pre, fun r => (HRP.out r).resolve_right (fun h => h rfl), HJs.out⟩⟩
      · have hq : q < p := by omega
        obtain ⟨k, hk⟩ : ∃ k : Nat, k = p - q := ⟨_, rfl⟩
        have HQ := hid (show p - k = q by omega)
        have w0 : IntKind.i64.wrap ((q : Int) + 1 - 1) = (q : Int) := by rw [IntWalk.i64_in _ (by omega)]; omega
        have w1 : IntKind.i64.wrap ((p : Int) - (q : Int)) = (k : Int) := by rw [IntWalk.i64_in _ (by omega)]; omega
        have g0 : (0 : Int) < (q : Int) + 1 := by omega
        have HM := hid (And.intro hq2 (And.intro hq3 hq4))
        have HPQ := hid hq1
        have HKQ := hid (show 1 ≤ k ∧ k ≤ p by omega)
        have hqs : (q : Int) < (s.size : Int) := by omega
        have hqn : q < s.size := by omega
        clear hq1 hq2 hq3 hq4 hk
        by_cases hf : (32768 : Int) < (k : Int)
        · have hrf : ¬ Rep s p := fun r => by have := r.1; have := HKQ.out; omega
          have HRF := hid hrf
          clear hrf
          obtain ⟨kk, hkk⟩ : ∃ kk : Int, (k : Int) = kk := ⟨_, rfl⟩
          rw [hkk] at w1 hf
          clear hkk
          gi_wp2
          refine ⟨fun f h => (by cases h), ?_⟩
          gi_wp2
          refine bodyPost_ret (results_none rfl _ _ _) rfl ?_
          exact ⟨⟨_, rfl⟩, .inl ⟨pre, fun r => absurd r HRF.out, HJs.out⟩⟩
        · have hbk : IsBk s p k := by
            obtain ⟨m1, m2, m3⟩ := HM.out
            have hkk := HKQ.out
            unfold IsBk
            rw [HQ.out]
            exact ⟨hkk.1, hkk.2, by omega, h3, m1, m2, m3⟩
          obtain ⟨fn, tmps, assign, body, hyy, hR⟩ := hY pre ⟨k, hbk⟩ wr HJs.out (by have := HPQ.out; omega)
          have HBK := hid hbk
          clear hY
          gi_wp2
          refine hR.mono ?_
          rintro e W4 (⟨rfl, hJ4, hk4⟩ | ⟨rfl, hJx4⟩)
          · have S4 := hid (hk4 SR.out)
            have HJ4 := hid hJ4
            clear hJ4 hk4 c2 c3 hR hyy
            obtain ⟨cG0, cG1, cG2⟩ := S4.out.ch.cG
            have c2 := cell1 S4.out.b2
            obtain ⟨y, cR, _, hv⟩ := S4.out.ch.cR hqn
            have HV := hid hv
            clear hv
            gi_wp2
            go_roundw
            case rel =>
              refine ⟨pre ++ [⟨k, HBK.out⟩], y, rfl, ?_, fun _ => .inl (by simp), HJ4.out, S4.out⟩
              obtain ⟨m1, m2, m3⟩ := HM.out
              rcases HV.out with h | ⟨q', h1, h2, h4, h5, h6, h7⟩
              · exact .inl h
              · exact .inr ⟨q', h1, by have := HPQ.out; rw [List.length_append]; simp; omega, by omega, by omega, by omega⟩
            case measure =>
              rcases HV.out with h | ⟨q', h1, h2, _⟩ <;> simp [intOf] <;> omega
          · have HX4 := hid hJx4
            clear hJx4
            gi_wp2
            refine bodyPost_ret (results_none rfl _ _ _) rfl ?_
            exact ⟨⟨_, rfl⟩, .inr (by first | exact ⟨_, trivial, HX4.out⟩ | exact ⟨_, HX4.out⟩)⟩
  · have HK := hid (keyAt_no s p G W (by omega) (by omega) hs (by omega) l1 hS.ch.cG.1)
    clear hJ hS
    refine callsIn_of_wp Try.func26 rfl trivial ?_ rfl
    simp only [Try.ntmps26, List.size_toArray, List.length_cons, List.length_nil, Nat.reduceAdd, Nat.reduceSub, Array.replicate_succ, Array.replicate_zero, List.push_toArray, List.append_toArray, List.nil_append, List.cons_append]
    gi_wp2
    refine ⟨trivial, (callsIn_wide.2 HK.out).mono ?_⟩
    rintro e w1 ⟨rfl, b1⟩
    gi_wp2
    refine bodyPost_ret (results_none rfl _ _ _) rfl ?_
    exact ⟨⟨_, rfl⟩, .inl ⟨[], fun r => by have := r.2.1; omega, HJ.out _ (b1.alloc b1.size _)⟩⟩
end Lz
end Go.Proofs.Ytlhgkemiakekoaa
