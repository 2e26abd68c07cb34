/- INFLATE: a block's own lengths, of the document: the walk of its Tables. -/
import Derived.Test.YtlfohihmkfphhaaJnfQ
namespace Go.Proofs.Ytlfohihmkfphhaa
set_option linter.unusedVariables false
open Go.RowKit
open Go.Proofs.Huf
attribute [local go_sem ↓] Go.wp_at_zero Go.wp_at_succ
namespace Inf
open Huff
set_option maxRecDepth 100000 in
set_option maxHeartbeats 64000000 in
theorem tablesX (S R B : Nat) (s : ByteArray) (p F : Nat) (t : ByteArray) (most : Int) (w : World) (h : Xs w S R s t most (.ok () p)) (hS : B ≤ S) (hR : B ≤ R) (hs : s.size ≤ 1048576) (hF : 8 * s.size < F) (hB : B ≤ w.heap.size) :
    Calls Try.prog 26 #[.pointer (some ⟨S, 0, none⟩)] w fun e w' => (∃ A1 b1 o1 n1 c1 A2 b2 o2 n2 c2 l1 l2, e = .returned (.tuple #[.slice A1 n1 c1, .slice A2 n2 c2]) ∧ l1.length = n1 ∧ l2.length = n2 ∧ Lk w' A1 b1 o1 l1 ∧ Lk w' A2 b2 o2 l2 ∧
      Xs w' S R s t most (tablesP F (numS s) (8 * s.size) p) ∧ (∀ a q, tablesP F (numS s) (8 * s.size) p = .ok a q → a = (l1, l2)) ∧ (∀ f, tablesP F (numS s) (8 * s.size) p = .bad f → l1 = [] ∧ l2 = [])) ∧ Kp TR B w w' := by
  have HT := hid h
  have HTK := hid (fun n (hn : n ≤ 16) (r : Res Nat) W (hw : Xs W S R s t most r) => takeX S R B s n t most r W hw hS hR hs hn)
  have HTU := hid (fun n (hn : n ≤ 16) (r : Res Unit) W (hw : Xs W S R s t most r) => takeX S R B s n t most r W hw hS hR hs hn)
  have HMU := hid (fun ok (r : Res Nat) W (hw : Xs W S R s t most r) => mustX S R B s ok t most r W hw hS)
  obtain ⟨X, hX⟩ : ∃ X, X = numS s := ⟨_, rfl⟩
  obtain ⟨L, hL⟩ : ∃ L, L = 8 * s.size := ⟨_, rfl⟩
  rw [← hX, ← hL]
  rw [← hX, ← hL] at HTK HTU
  obtain ⟨rr, hrr⟩ : ∃ rr, rr = tablesP F X L p := ⟨_, rfl⟩
  rw [← hrr]
  have hrr2 : rr = on X L (.ok () p : Res Unit) (tablesP F) := hrr
  unfold tablesP at hrr2
  rw [on_bind] at hrr2
  obtain ⟨r1, h1⟩ : ∃ r1, r1 = on X L (.ok () p : Res Unit) (take 5) := ⟨_, rfl⟩
  have v1 : valOr r1 < 32 := by rw [h1]; exact valOr_take
  rw [← h1, on_bind] at hrr2
  obtain ⟨r2, h2⟩ : ∃ r2, r2 = on X L r1 (take 5) := ⟨_, rfl⟩
  have v2 : valOr r2 < 32 := by rw [h2]; exact valOr_take
  rw [← h2, on_bind] at hrr2
  obtain ⟨r3, h3⟩ : ∃ r3, r3 = on X L r2 (take 4) := ⟨_, rfl⟩
  have v3 : valOr r3 < 16 := by rw [h3]; exact valOr_take
  rw [← h3, on_if] at hrr2
  have HK1 := hid (HTU.out 5 (by omega) (.ok () p))
  have HK2 := hid (HTK.out 5 (by omega) r1)
  have HK3 := hid (HTK.out 4 (by omega) r2)
  rw [← h1] at HK1
  rw [← h2] at HK2
  rw [← h3] at HK3
  clear h1 h2 h3
  generalize valOr r1 = a at *
  generalize valOr r2 = b at *
  generalize valOr r3 = k at *
  obtain ⟨N, hN⟩ : ∃ N, a + 257 = N := ⟨_, rfl⟩
  obtain ⟨M, hM⟩ : ∃ M, b + 1 = M := ⟨_, rfl⟩
  obtain ⟨K, hK⟩ : ∃ K, k + 4 = K := ⟨_, rfl⟩
  rw [hN, hM, hK] at hrr2
  obtain ⟨r4, h4⟩ : ∃ r4, r4 = must (decide (N ≤ 286 ∧ M ≤ 30)) r3 := ⟨_, rfl⟩
  rw [← h4] at hrr2
  have HRR := hid hrr2
  have H4 := hid h4
  clear hrr hrr2 h4 h
  have HM4 := hid (fun ok => HMU.out ok r3)
  go_enter Try.func26, Try.ntmps26
  go_wp2_with fail
  refine (HK1.out _ HT.out).mono ?_
  rintro e w1 ⟨⟨rfl, x1⟩, k1⟩
  have X1 := hid x1
  have K1 := hid k1
  clear x1 k1
  go_wp2_with fail
  refine (HK2.out _ X1.out).mono ?_
  rintro e w2 ⟨⟨rfl, x2⟩, k2⟩
  have X2 := hid x2
  have K2 := hid (K1.out.trans k2)
  clear x2 k2
  go_wp2_with fail
  refine (HK3.out _ X2.out).mono ?_
  rintro e w3 ⟨⟨rfl, x3⟩, k3⟩
  have X3 := hid x3
  have K3 := hid (K2.out.trans k3)
  clear x3 k3 HK1 HK2 HK3 X1 X2 K1 K2
  go_upto_region 4 with fail
  go_cut [4, 5, 6] (fun x y z wx => x = .int .i64 (N : Int) ∧ y = .int .i64 (M : Int) ∧ z = .int .i64 (K : Int) ∧ Xs wx S R s t most r4 ∧ Kp TR B w wx)
  case first =>
    by_cases c1 : N ≤ 286
    · have hd : decide ((1 : Int) + (b : Int) ≤ 30) = decide (N ≤ 286 ∧ M ≤ 30) := decide_eq_decide.2 ⟨fun h => ⟨c1, by omega⟩, fun h => by have := h.2; omega⟩
      have HD := hid hd
      clear hd
      go_wp2_with fail
      rw [HD.out]
      refine (HM4.out _ _ X3.out).mono ?_
      rintro e w4 ⟨⟨rfl, x4⟩, k4⟩
      have X4 := hid (show Xs w4 S R s t most r4 from by rw [H4.out]; exact x4)
      have K4 := hid (K3.out.trans k4)
      clear x4 k4
      go_wp2_with fail
      go_meet
      exact ⟨congrArg (Value.int .i64) (by omega), congrArg (Value.int .i64) (by omega), congrArg (Value.int .i64) (by omega), X4.out, K4.out⟩
    · have hd : decide (N ≤ 286 ∧ M ≤ 30) = false := decide_eq_false (fun h => c1 h.1)
      have HD := hid hd
      have g1 : ¬ (257 : Int) + (a : Int) ≤ 286 := by omega
      clear hd
      go_wp2_with fail
      refine (HM4.out _ _ X3.out).mono ?_
      rintro e w4 ⟨⟨rfl, x4⟩, k4⟩
      have X4 := hid (show Xs w4 S R s t most r4 from by rw [H4.out, HD.out]; exact x4)
      have K4 := hid (K3.out.trans k4)
      clear x4 k4
      go_wp2_with fail
      go_meet
      exact ⟨congrArg (Value.int .i64) (by omega), congrArg (Value.int .i64) (by omega), congrArg (Value.int .i64) (by omega), X4.out, K4.out⟩
  case rest =>
    obtain ⟨rfl, rfl, rfl, hx4, hk4⟩ := hcut
    have X4 := hid hx4
    have K4 := hid hk4
    have hK19 : K ≤ 19 := by omega
    have hNb : 257 ≤ N := by omega
    have hNt : N ≤ 288 := by omega
    have hMb : 1 ≤ M := by omega
    have hMt : M ≤ 32 := by omega
    clear hx4 hk4 HM4 H4 X3 K3 hN hM hK v1 v2 v3 HTU
    have hmk : ∀ W : World, (Instr.makeSlice 22 (.int .i64 19) (.int .i64 19)).run Try.prog W = .ok (.slice (some ⟨W.heap.size, 0, none⟩) 19 19) (W.alloc (.cells (lolV fun _ => 0) 3)) := fun W => make_ints 19 (by omega) W
    have he1 : (wc.alloc (.cells (lolV fun _ => 0) 3)).heap.size = wc.heap.size + 1 := by simp
    go_upto_region 8 with fail
    have HO1 := hid (show ((wc.alloc (.cells (lolV fun _ => 0) 3)).alloc (.cells ordA 3)).heap[wc.heap.size + 1]? = some (.cells ordA 3 (0, 0)) from by
      have := heap_alloc_new (wc.alloc (.cells (lolV fun _ => 0) 3)) (.cells ordA 3)
      rw [he1] at this
      exact this)
    have HL1 := hid (show ((wc.alloc (.cells (lolV fun _ => 0) 3)).alloc (.cells ordA 3)).heap[wc.heap.size]? = some (.cells (lolV fun _ => 0) 3 (0, 0)) from (Below.heap_alloc _ _ _ (by simp)).trans (heap_alloc_new _ _))
    have HBB := hid (show Below wc.heap.size wc ((wc.alloc (.cells (lolV fun _ => 0) 3)).alloc (.cells ordA 3)) from ((Below.refl _ _).alloc (Nat.le_refl _) _).alloc (by simp) _)
    have HBC := hid (Nat.le_trans hB K4.out.size)
    clear hmk he1
    have HORD := hid ordA_at
    have HOLT := hid ord_lt
    have HTK3 := hid (HTK.out 3 (by omega))
    obtain ⟨rl, hrl⟩ : ∃ rl, rl = on X L r4 (lolF K 0 fun _ => 0) := ⟨_, rfl⟩
    have HRL := hid hrl
    go_loopw [9] (fun i wr => ∃ (k : Nat) (f : Nat → Nat) (r : Res Nat), k ≤ K ∧ i = .int .i64 (k : Int) ∧ wr.heap[wc.heap.size]? = some (.cells (lolV f) 3 (0, 0)) ∧ wr.heap[wc.heap.size + 1]? = some (.cells ordA 3 (0, 0)) ∧ Xs wr S R s t most r ∧ Kp TR B wc wr ∧ (∀ j, f j ≤ 7) ∧
        rl = on X L r (lolF (K - k) k f)) (fun i _ => K - (intOf i).toNat)
    case atStart => exact ⟨0, _, r4, Nat.zero_le _, rfl, HL1.out, HO1.out, X4.out.grow HBB.out, Kp.of_below HBB.out HBC.out, (fun j => Nat.zero_le _), HRL.out⟩
    case round =>
      obtain ⟨k, f, r, hk, rfl, hL, hO, hx, hkp, hf7, hr⟩ := hrel
      have XR := hid hx
      have KR := hid hkp
      have HLL := hid hL
      have HOO := hid hO
      have HF7 := hid hf7
      have HR := hid hr
      have HSZ := hid hkp.size
      clear hL hO hx hkp hf7 hr
      by_cases hlt : k < K
      · have hki : (k : Int) < (K : Int) := by omega
        have c0 : wr.cell? ⟨wc.heap.size + 1, k, none⟩ = some (.int .i64 (ord k : Int)) := by rw [cell_of_row _ _ _ _ _ _ HOO.out]; exact HORD.out k (by omega)
        have hol := HOLT.out k
        have HSET := hid (lolV_set f (ord k))
        have hor : (lolV f)[ord k]? = some (.int .i64 (f (ord k) : Int)) := Huff.rowV_at _ _ _ hol
        have HKT := hid (HTK3.out r)
        obtain ⟨r', hr'⟩ : ∃ r', r' = on X L r (take 3) := ⟨_, rfl⟩
        rw [← hr'] at HKT
        have hv8 : valOr r' < 8 := by rw [hr']; exact valOr_take
        have HR' := hid (show rl = on X L r' (lolF (K - (k + 1)) (k + 1) (upd f (ord k) (valOr r'))) from by
          rw [HR.out, show K - k = (K - (k + 1)) + 1 by omega]
          show on X L r (bind (take 3) fun v => lolF (K - (k + 1)) (k + 1) (upd f (ord k) v)) = _
          rw [on_bind, ← hr'])
        have HU := hid (show ∀ j, upd f (ord k) (valOr r') j ≤ 7 from fun j => by
          unfold upd
          split
          · omega
          · exact HF7.out j)
        clear hr'
        generalize valOr r' = m at *
        generalize ord k = o at *
        have ho19 : (o : Int) < 19 := by omega
        have HC0 := hid (show ∀ W : World, W.heap[wc.heap.size + 1]? = some (.cells ordA 3 (0, 0)) → W.cell? ⟨wc.heap.size + 1, k, none⟩ = some (.int .i64 (o : Int)) from fun W hW => by rw [cell_of_row _ _ _ _ _ _ HOO.out] at c0; rw [cell_of_row _ _ _ _ _ _ hW]; exact c0)
        go_wp2_with fail
        go_region_with (go_at_call 42; refine (HKT.out _ (by first | exact XR.out | exact XR.out.grow ⟨rfl, rfl, rfl, Nat.le_refl _, fun _ _ => rfl⟩)).mono ?_; rintro e w5 ⟨⟨rfl, x5⟩, k5⟩; have X5 := hid x5; have K5 := hid (KR.out.trans ((show Kp TR B wr _ from (by first | exact Kp.refl _ _ _ | exact (Kp.refl _ _ _).drewN _)).trans k5)); have O5 := hid (k5.keep _ _ _ _ HOO.out (by decide)); have L5 := hid (k5.keep _ _ _ _ HLL.out (by decide)); have c5 : w5.cell? ⟨wc.heap.size, o, none⟩ = some (.int .i64 (f o : Int)) := (by rw [cell_of_row _ _ _ _ _ _ L5.out]; exact hor); have c6 := HC0.out w5 O5.out; have f5 : w5.frozen? ⟨wc.heap.size, o, none⟩ = false := (frozen_of_row _ _ _ _ _ L5.out); clear x5 k5)
        all_goals
          have HSL := hid (heap_setCell_same w5 wc.heap.size o _ 3 (.int .i64 (m : Int)) L5.out)
          rw [HSET.out m] at HSL
          go_wp2_with fail
          go_roundw
          case rel => exact ⟨k + 1, upd f o m, r', by omega, by go_num, HSL.out, (heap_setCell_other w5 ⟨wc.heap.size, o, none⟩ (wc.heap.size + 1) _ (by simp)).trans O5.out, X5.out.other L5.out (Only.setCell _ _ _ _), K5.out.setNew HBC.out (Nat.le_refl _), HU.out, HR'.out⟩
          case measure => simp [intOf]; omega
      · obtain rfl : k = K := by omega
        have HRE := hid (show rl = on X L r (ret f) from by rw [HR.out, Nat.sub_self]; rfl)
        have hints : Ints wr wc.heap.size 0 19 (fun j => (f j : Int)) := ⟨fun _ => (Array.getElem?_eq_some_iff.1 HLL.out).1, fun j hj => by
          rw [Nat.zero_add, cell_of_row _ _ _ _ _ _ HLL.out]
          exact Huff.rowV_at _ _ _ hj⟩
        have hfine : Fine 19 (fun j => (f j : Int)) := ⟨by omega, fun j _ => by have := HF7.out j; show 0 ≤ (f j : Int) ∧ (f j : Int) ≤ 15; omega⟩
        have hnat : natOf (fun j => (f j : Int)) = f := by funext j; simp [natOf]
        have HKI := hid (refKind_yes (some ⟨wc.heap.size, 0, none⟩) wc.heap.size 0 19 19 (fun j => (f j : Int)) wr (fun _ => rfl) hints hfine)
        rw [hnat] at HKI
        have HFN := hid hfine
        have HNAT := hid hnat
        obtain ⟨r5, h5⟩ : ∃ r5, r5 = must (decide (kindOf (wT f 19) = 1)) r := ⟨_, rfl⟩
        have hr5 : rr = on X L r5 (bind (rowF f (N + M) F []) fun l => if tabOk l N then ret (l.take N, l.drop N) else fail 2) := by
          have h1 := HRR.out
          have h2 : on X L r4 (lolF k 0 fun _ => 0) = on X L r (ret f) := HRL.out.symm.trans HRE.out
          rw [on_then _ h2, on_if, ← h5] at h1
          exact h1
        have hk5 : ∀ a q, r5 = .ok a q → kindOf (wT f 19) = 1 := by
          intro a q e
          rw [h5] at e
          cases hrc : r with
          | bad e2 => rw [hrc, must_bad] at e; cases e
          | ok a2 q2 =>
            rw [hrc, must_ok] at e
            split at e
            · rename_i hh; exact of_decide_eq_true hh
            · cases e
        have HCX := hid (fun W (hi : Ints W wc.heap.size 0 19 (fun j => (f j : Int))) => codesX wc.heap.size 19 f W hi HF7.out)
        have HM5 := hid (HMU.out (decide (kindOf (wT f 19) = 1)) r)
        rw [← h5] at HM5
        have hB : (((kindOf (wT f 19) : Nat) : Int) == 1) = decide (kindOf (wT f 19) = 1) := by
          by_cases hv : kindOf (wT f 19) = 1
          · rw [decide_eq_true hv]; exact beq_iff_eq.2 (by omega)
          · rw [decide_eq_false hv]; exact beq_eq_false_iff_ne.2 (by omega)
        have HB5 := hid hB
        have HK5 := hid hk5
        have HR5 := hid hr5
        have HI := hid hints
        clear hints hfine hnat hB hk5 hr5 h5 hlt hk
        generalize hkk : kindOf (wT f 19) = kk at *
        have HKK := hid hkk
        clear hkk
        go_wp2_with fail
        refine HKI.out.mono ?_
        rintro e w6 ⟨rfl, rfl⟩
        go_wp2_with fail
        rw [HB5.out]
        refine (HM5.out _ XR.out).mono ?_
        rintro e w7 ⟨⟨rfl, x7⟩, k7⟩
        have X7 := hid x7
        have K7 := hid (KR.out.trans k7)
        have L7 := hid (k7.keep _ _ _ _ HLL.out (by decide))
        clear x7 k7
        have I7 := hid (show Ints w7 wc.heap.size 0 19 (fun j => (f j : Int)) from ⟨fun _ => (Array.getElem?_eq_some_iff.1 L7.out).1, fun j hj => by
          rw [Nat.zero_add, cell_of_row _ _ _ _ _ _ L7.out]
          exact Huff.rowV_at _ _ _ hj⟩)
        go_wp2_with fail
        refine (HCX.out _ I7.out).mono ?_
        rintro e wz ⟨⟨Q, cn, cc, rfl, hcod⟩, bz⟩
        have XZ := hid (X7.out.grow bz)
        have KZ := hid (K4.out.trans (K7.out.trans (Kp.of_below bz (Nat.le_trans HBC.out K7.out.size))))
        have LZ := hid ((bz.block _ (Array.getElem?_eq_some_iff.1 L7.out).1).trans L7.out)
        have HCOD := hid hcod
        clear bz hcod HBB HL1 HO1 HORD HOLT HTK3 HRL HLL HOO KR XR HKI HI HM5 HCX HB5 X7 K7 L7 I7 HR HRE HSZ
        go_upto_region 14 with fail
        obtain ⟨rw0, hrw0⟩ : ∃ rw0, rw0 = on X L r5 (rowF f (N + M) F []) := ⟨_, rfl⟩
        have HRW := hid hrw0
        have HSZ := hid KZ.out.size
        have HBC2 := hid (show B ≤ wz.heap.size from Nat.le_trans hB KZ.out.size)
        have HLC := hid (show ∀ W (r : Res Nat), Kp TR B wz W → Xs W S R s t most r → kk = 1 → LcF W R wc.heap.size 0 Q (fun j => (f j : Int)) 19 from by
          intro W r hk hx h1
          obtain ⟨hcn, C, _, hQ, hC⟩ := HCOD.out (by omega)
          have hg := hk.keep _ _ _ _ LZ.out (by decide)
          have hc := hk.keep _ _ _ _ hC (by decide)
          obtain ⟨cs, hb⟩ := hx.blk
          refine ⟨fun i hi => ⟨?_, (Array.getElem?_eq_some_iff.1 hg).1, ?_⟩, fun i hi => ⟨C, hQ, ?_, (Array.getElem?_eq_some_iff.1 hc).1, ?_⟩⟩
          · rintro e
            rw [e, hb] at hg
            cases hg
          · rw [Nat.zero_add, cell_of_row _ _ _ _ _ _ hg]
            exact Huff.rowV_at _ _ _ hi
          · rintro e
            rw [e, hb] at hc
            cases hc
          · rw [cell_of_row _ _ _ _ _ _ hc, HNAT.out]
            rw [cdV_at _ _ _ _ hi, if_pos hi])
        obtain ⟨i0, hi0, hz0, hz1, hz2⟩ := info_parts infoI
        have HII := hid hi0
        have HNX := hid (fun (r : Res Nat) W (hw : Xs W S R s t most r) (hl : LcF W R wc.heap.size 0 Q (fun j => (f j : Int)) 19) => nextX S R B s (some ⟨wc.heap.size, 0, none⟩) Q wc.heap.size 0 19 19 cc (fun j => (f j : Int)) t most r W hw hS hR hs (fun _ => rfl) hl HFN.out)
        rw [HNAT.out, ← hX, ← hL] at HNX
        clear hrw0 hi0
        go_loopg [11] (meas L r5) (fun gk rv wr => ∃ (l : List Nat) (r : Res Nat) (F' : Nat), gk = meas L r ∧ OwnI wr wz.heap.size rv l ∧ Small l ∧ l.length ≤ N + M ∧ Xs wr S R s t most r ∧ Kp TR B wz wr ∧ (∀ a q, r = .ok a q → kk = 1 ∧ L - q < F') ∧ rw0 = on X L r (rowF f (N + M) F' l))
        case atStart => exact ⟨[], r5, F, rfl, World.ownsRow_nil _ _ _ _, (fun i hi => by simp at hi), by simp, XZ.out, Kp.refl _ _ _, (fun a q e => ⟨HK5.out a q e, by omega⟩), HRW.out⟩
        case round =>
          obtain ⟨l, r, F', rfl, hown, hsm, hll, hx, hkp, hok, hr⟩ := hrel
          obtain ⟨A, cap, gg, hv, hcell⟩ := OwnI.form hown
          subst hv
          have HOW := hid hown
          have HSM := hid hsm
          have XR := hid hx
          have KR := hid hkp
          have HR := hid hr
          have c3 := XR.out.c3
          clear hown hsm hx hkp hr
          cases r with
          | bad e =>
            obtain ⟨n1, n2⟩ := XR.out.told.ne rfl
            simp only [whyOf] at c3
            have HFIN := hid (show rr = .bad e from by
              have h1 := HR5.out
              have h2 : on X L r5 (rowF f (N + M) F []) = .bad e := HRW.out.symm.trans (HR.out.trans (on_bad X L e _))
              rw [h1]
              cases hr5 : r5 with
              | bad e5 => rw [hr5, on_bad] at h2; rw [on_bad]; cases h2; rfl
              | ok a5 q5 => rw [hr5, on_ok] at h2; rw [on_ok, bind_bad h2])
            clear hcell
            go_wp2_with fail
            go_returns
            exact ⟨⟨none, 0, 0, 0, 0, none, 0, 0, 0, 0, [], [], rfl, rfl, rfl, ⟨⟨fun h => absurd h (Nat.lt_irrefl _), ⟨fun h => absurd h (Nat.lt_irrefl _), fun i hi => absurd hi (Nat.not_lt_zero _)⟩, Nat.zero_le _, fun i hi => absurd hi (Nat.not_lt_zero _)⟩, fun h => absurd h (Nat.lt_irrefl _)⟩, ⟨⟨fun h => absurd h (Nat.lt_irrefl _), ⟨fun h => absurd h (Nat.lt_irrefl _), fun i hi => absurd hi (Nat.not_lt_zero _)⟩, Nat.zero_le _, fun i hi => absurd hi (Nat.not_lt_zero _)⟩, fun h => absurd h (Nat.lt_irrefl _)⟩, XR.out.as (by rw [HFIN.out]; rfl) (fun b p h => by rw [HFIN.out] at h; cases h) (by rw [HFIN.out]; intro g h; cases h; exact XR.out.told _ rfl), (fun a q h => by rw [HFIN.out] at h; cases h), fun f h => ⟨rfl, rfl⟩⟩, KZ.out.trans KR.out⟩
          | ok a q =>
            obtain ⟨hk1, hfu⟩ := hok a q rfl
            have HK1 := hid hk1
            have hk3 : kk ≠ 3 := by omega
            clear hk1
            simp only [whyOf] at c3
            by_cases hlt : l.length < N + M
            · obtain ⟨F2, rfl⟩ : ∃ F2, F' = F2 + 1 := ⟨F' - 1, by omega⟩
              have hlti : (l.length : Int) < (N : Int) + (M : Int) := by omega
              have hcn19 := (HCOD.out (by omega)).1
              subst hcn19
              have HN1 := hid (HNX.out (.ok a q))
              obtain ⟨r1, h1⟩ : ∃ r1, r1 = on X L (.ok a q : Res Nat) (sym f 19) := ⟨_, rfl⟩
              rw [← h1] at HN1
              have hread : (⟨f, 19, true⟩ : Cds).read = sym f 19 := by unfold Cds.read; rw [if_pos rfl]
              have hpos : ∀ a' q', r1 = .ok a' q' → q < q' ∧ a' < 19 := by
                intro a' q' e
                rw [h1, on_ok] at e
                have := read_of (c := ⟨f, 19, true⟩) (by rw [hread]; exact e)
                exact ⟨this.2.1, this.1⟩
              obtain ⟨c, hc⟩ : ∃ c, c = valOr r1 := ⟨_, rfl⟩
              have hc19 : c < 19 := by
                rw [hc]
                cases hr1 : r1 with
                | bad e => exact Nat.zero_lt_succ _
                | ok a' q' => exact (hpos a' q' hr1).2
              have hcok : ∀ a' q', r1 = .ok a' q' → q < q' := fun a' q' e => (hpos a' q' e).1
              rw [← hc] at HN1
              have H1 := hid h1
              have HC := hid hc
              have HPOS := hid hcok
              clear h1 hc hpos hcok hread
              go_wp2_with fail
              refine (HN1.out _ XR.out (HLC.out _ _ KR.out XR.out HK1.out)).mono ?_
              rintro e w3 ⟨⟨rfl, x3⟩, k3⟩
              have X3 := hid x3
              have K3 := hid (KR.out.trans k3)
              have O3 := hid (HOW.out.kpR k3)
              clear x3 k3 c3 HN1
              rcases (show c = 16 ∨ c = 17 ∨ c = 18 ∨ (c ≠ 16 ∧ c ≠ 17 ∧ c ≠ 18) by omega) with rfl | rfl | rfl | ⟨z16, z17, z18⟩
              · by_cases hl0 : l.length = 0
                · have hz1 : ¬ (0 : Int) < (l.length : Int) := by omega
                  have HM0 := hid (fun W (hw : Xs W S R s t most r1) => HMU.out false r1 W hw)
                  obtain ⟨r', hr'⟩ : ∃ r', r' = on X L (must false r1) (take 2) := ⟨_, rfl⟩
                  have HT0 := hid (fun W (hw : Xs W S R s t most (must false r1)) => HTK.out 2 (by omega) (must false r1) W hw)
                  rw [← hr'] at HT0
                  have hvm : valOr r' < 4 := by rw [hr']; exact valOr_take
                  have HRUN0 := hid hr'
                  clear hr'
                  obtain ⟨m, hm⟩ : ∃ m, m = valOr r' := ⟨_, rfl⟩
                  rw [← hm] at HT0 hvm
                  obtain ⟨T, hT⟩ : ∃ T, 3 + m = T := ⟨_, rfl⟩
                  have e3 : IntKind.i64.wrap (3 + (m : Int)) = (T : Int) := by rw [IntWalk.i64_in _ (by omega)]; omega
                  have HD0 := hid (show decide (0 < l.length) = false from decide_eq_false (by omega))
                  have HRUN := hid (show on X L r1 (runP 16 l) = on X L r' (ret (16, T)) from by rw [HRUN0.out]; exact runX16z X L r1 l hl0 16 T)
                  have HQ := hid (show ∀ a' q', r' = .ok a' q' → q < q' ∧ (16 : Nat) ≤ 15 from fun a' q' e => by
                    rw [HRUN0.out] at e
                    obtain ⟨b, q0, e2, _⟩ := on_take_ok e
                    cases hr1 : r1 with
                    | bad e3 => rw [hr1] at e2; cases e2
                    | ok a3 q3 => rw [hr1] at e2; cases e2)
                  have hT1 : 1 ≤ T := by omega
                  have hT2 : T ≤ 200 := by omega
                  clear hcell hvm hT hm HRUN0 hl0
                  go_wp2_with fail
                  (first | rw [HD0.out] | skip)
                  refine (HM0.out _ X3.out).mono ?_
                  rintro e w4 ⟨⟨rfl, x4⟩, k4⟩
                  have XP := hid x4
                  have KP := hid (K3.out.trans k4)
                  have OP := hid (O3.out.kpR k4)
                  clear x4 k4 HM0
                  go_wp2_with fail

                  refine (HT0.out _ XP.out).mono ?_
                  rintro e w5 ⟨⟨rfl, x5⟩, k5⟩
                  have X5 := hid x5
                  have K5 := hid (KP.out.trans k5)
                  have O5 := hid (OP.out.kpR k5)
                  clear x5 k5

                  have HM6 := hid (fun W (hw : Xs W S R s t most r') => HMU.out (decide (l.length + T ≤ N + M)) r' W hw)
                  obtain ⟨r6, h6⟩ : ∃ r6, r6 = must (decide (l.length + T ≤ N + M)) r' := ⟨_, rfl⟩
                  rw [← h6] at HM6
                  have HSTEP := hid (row_step (F := F2) hlt H1.out (by rw [← HC.out]; exact HRUN.out) h6)
                  have HD6 := hid (show decide ((l.length : Int) + (T : Int) ≤ (N : Int) + (M : Int)) = decide (l.length + T ≤ N + M) from decide_eq_decide.2 ⟨fun h => by omega, fun h => by omega⟩)
                  have H6 := hid (fun a' q' (e : r6 = .ok a' q') => must_of (h6.symm.trans e))
                  clear h6
                  go_wp2_with fail
                  rw [HD6.out]
                  refine (HM6.out _ X5.out).mono ?_
                  rintro e w6 ⟨⟨rfl, x6⟩, k6⟩
                  have X6 := hid x6
                  have K6 := hid (K5.out.trans k6)
                  have O6 := hid (O5.out.kpR k6)
                  clear x6 k6 HM6 HD6 X5 K5 O5 HMU HTK HNX HLC HCOD
                  go_wp2_with fail
                  go_loopg [11, 15] T (fun gk rv i wr2 => ∃ k : Nat, gk = T - k ∧ k ≤ T ∧ i = .int .i64 (k : Int) ∧ OwnI wr2 wz.heap.size rv (l ++ List.replicate k 16) ∧ Xs wr2 S R s t most r6 ∧ Kp TR B wz wr2 ∧ (∀ e, r6 = .bad e → k = 0))
                  case atStart => exact ⟨0, rfl, Nat.zero_le _, rfl, by rw [List.replicate_zero, List.append_nil]; exact O6.out, X6.out, K6.out, fun _ _ => rfl⟩
                  case round =>
                    obtain ⟨k, rfl, hk, rfl, hown, hx, hkp, hz⟩ := hrel
                    obtain ⟨A2, cap2, gg2, hv, _⟩ := OwnI.form hown
                    subst hv
                    have HO := hid hown
                    have HX := hid hx
                    have HK := hid hkp
                    have c3 := hx.c3
                    clear hown hx hkp X6 K6 O6
                    cases r6 with
                    | bad e =>
                      obtain rfl := hz e rfl
                      obtain ⟨n1, n2⟩ := HX.out.told.ne rfl
                      simp only [whyOf] at c3
                      have ht0 : (0 : Int) < (T : Int) := by omega
                      rw [List.replicate_zero, List.append_nil] at HO
                      rw [show (l ++ List.replicate 0 16) = l by rw [List.replicate_zero, List.append_nil]]
                      go_wp2_with fail
                      go_roundg (meas L (.bad e : Res Nat))
                      case measure => simp only [meas]; omega
                      case rel => exact ⟨l, .bad e, F2, rfl, HO.out, HSM.out, hll, HX.out, HK.out, (fun a q e => by cases e), HR.out.trans (HSTEP.out.trans rfl)⟩
                    | ok a6 q6 => exact absurd (HQ.out a6 q6 (H6.out a6 q6 rfl).1).2 (by decide)
                · have hz : (0 : Int) < (l.length : Int) := by omega
                  obtain ⟨hA, hg, hcl⟩ := hcell (l.length - 1) (by omega)
                  subst hA
                  have HCL := hid (fun W (hw : OwnI W wz.heap.size (.slice (some ⟨gg, 0, none⟩) l.length cap) l) => OwnI.cell hw (l.length - 1) (by omega))
                  have hx15 : l.getD (l.length - 1) 0 ≤ 15 := HSM.out (l.length - 1) (by omega)
                  have HM0 := hid (fun W (hw : Xs W S R s t most r1) => HMU.out true r1 W hw)
                  rw [must_true] at HM0
                  have HRZ := hid (runX16 X L r1 l (by omega))
                  obtain ⟨r', hr'⟩ : ∃ r', r' = on X L r1 (take 2) := ⟨_, rfl⟩
                  have HT0 := hid (fun W (hw : Xs W S R s t most r1) => HTK.out 2 (by omega) r1 W hw)
                  rw [← hr'] at HT0
                  have hvm : valOr r' < 4 := by rw [hr']; exact valOr_take
                  have HRUN0 := hid hr'
                  clear hr'
                  obtain ⟨m, hm⟩ : ∃ m, m = valOr r' := ⟨_, rfl⟩
                  rw [← hm] at HT0 hvm
                  obtain ⟨T, hT⟩ : ∃ T, 3 + m = T := ⟨_, rfl⟩
                  have e3 : IntKind.i64.wrap (3 + (m : Int)) = (T : Int) := by rw [IntWalk.i64_in _ (by omega)]; omega
                  rw [← HRUN0.out] at HRZ
                  rw [← hm, hT] at HRZ
                  obtain ⟨kk2, hkk2⟩ : ∃ k : Nat, l.length = k + 1 := ⟨l.length - 1, by omega⟩
                  have hk1' : l.length - 1 = kk2 := by omega
                  rw [hk1'] at HCL hx15 HRZ
                  generalize l.getD kk2 0 = xl at HCL hx15 HRZ
                  have HRUN := HRZ
                  have HQ := hid (show ∀ a' q', r' = .ok a' q' → q < q' ∧ xl ≤ 15 from fun a' q' e => by
                    rw [HRUN0.out] at e
                    obtain ⟨b, q0, e2, e3⟩ := on_take_ok e
                    have := HPOS.out _ _ e2
                    exact ⟨by omega, hx15⟩)
                  have hT1 : 1 ≤ T := by omega
                  have hT2 : T ≤ 200 := by omega
                  have HD0 := hid (show decide (0 < l.length) = true from decide_eq_true (by omega))
                  have e1 : IntKind.i64.wrap ((l.length : Int) - 1) = (kk2 : Int) := by rw [IntWalk.i64_in _ (by omega)]; omega
                  have g1 : (kk2 : Int) < (l.length : Int) := by omega
                  have g2 : kk2 < l.length := by omega
                  clear hcell hcl hkk2 hk1' hvm hT hm HRUN0 hl0
                  go_wp2_with fail
                  (first | rw [HD0.out] | skip)
                  refine (HM0.out _ X3.out).mono ?_
                  rintro e w4 ⟨⟨rfl, x4⟩, k4⟩
                  have XP := hid x4
                  have KP := hid (K3.out.trans k4)
                  have OP := hid (O3.out.kpR k4)
                  clear x4 k4 HM0
                  go_wp2_with fail

                  refine (HT0.out _ XP.out).mono ?_
                  rintro e w5 ⟨⟨rfl, x5⟩, k5⟩
                  have X5 := hid x5
                  have K5 := hid (KP.out.trans k5)
                  have O5 := hid (OP.out.kpR k5)
                  clear x5 k5

                  have cl5 := HCL.out _ O5.out

                  have HM6 := hid (fun W (hw : Xs W S R s t most r') => HMU.out (decide (l.length + T ≤ N + M)) r' W hw)
                  obtain ⟨r6, h6⟩ : ∃ r6, r6 = must (decide (l.length + T ≤ N + M)) r' := ⟨_, rfl⟩
                  rw [← h6] at HM6
                  have HSTEP := hid (row_step (F := F2) hlt H1.out (by rw [← HC.out]; exact HRUN.out) h6)
                  have HD6 := hid (show decide ((l.length : Int) + (T : Int) ≤ (N : Int) + (M : Int)) = decide (l.length + T ≤ N + M) from decide_eq_decide.2 ⟨fun h => by omega, fun h => by omega⟩)
                  have H6 := hid (fun a' q' (e : r6 = .ok a' q') => must_of (h6.symm.trans e))
                  clear h6
                  go_wp2_with fail
                  rw [HD6.out]
                  refine (HM6.out _ X5.out).mono ?_
                  rintro e w6 ⟨⟨rfl, x6⟩, k6⟩
                  have X6 := hid x6
                  have K6 := hid (K5.out.trans k6)
                  have O6 := hid (O5.out.kpR k6)
                  clear x6 k6 HM6 HD6 X5 K5 O5 HMU HTK HNX HLC HCOD
                  go_wp2_with fail
                  go_loopg [11, 15] T (fun gk rv i wr2 => ∃ k : Nat, gk = T - k ∧ k ≤ T ∧ i = .int .i64 (k : Int) ∧ OwnI wr2 wz.heap.size rv (l ++ List.replicate k xl) ∧ Xs wr2 S R s t most r6 ∧ Kp TR B wz wr2 ∧ (∀ e, r6 = .bad e → k = 0))
                  case atStart => exact ⟨0, rfl, Nat.zero_le _, rfl, by rw [List.replicate_zero, List.append_nil]; exact O6.out, X6.out, K6.out, fun _ _ => rfl⟩
                  case round =>
                    obtain ⟨k, rfl, hk, rfl, hown, hx, hkp, hz⟩ := hrel
                    obtain ⟨A2, cap2, gg2, hv, _⟩ := OwnI.form hown
                    subst hv
                    have HO := hid hown
                    have HX := hid hx
                    have HK := hid hkp
                    have c3 := hx.c3
                    clear hown hx hkp X6 K6 O6
                    cases r6 with
                    | bad e =>
                      obtain rfl := hz e rfl
                      obtain ⟨n1, n2⟩ := HX.out.told.ne rfl
                      simp only [whyOf] at c3
                      have ht0 : (0 : Int) < (T : Int) := by omega
                      rw [List.replicate_zero, List.append_nil] at HO
                      rw [show (l ++ List.replicate 0 xl) = l by rw [List.replicate_zero, List.append_nil]]
                      go_wp2_with fail
                      go_roundg (meas L (.bad e : Res Nat))
                      case measure => simp only [meas]; omega
                      case rel => exact ⟨l, .bad e, F2, rfl, HO.out, HSM.out, hll, HX.out, HK.out, (fun a q e => by cases e), HR.out.trans (HSTEP.out.trans rfl)⟩
                    | ok a6 q6 =>
                      obtain ⟨h61, h62⟩ := H6.out a6 q6 rfl
                      obtain ⟨hq6, hV15⟩ := HQ.out a6 q6 h61
                      have HFIT := hid (of_decide_eq_true h62)
                      have hq6L : q6 ≤ L := by rw [hL]; exact HX.out.inn a6 q6 rfl
                      simp only [whyOf] at c3
                      clear h61 h62 hz
                      by_cases hkT : k < T
                      · have hki : (k : Int) < (T : Int) := by omega
                        have HSR := hid (show l ++ List.replicate (k + 1) xl = (l ++ List.replicate k xl) ++ [xl] by rw [List.replicate_succ', List.append_assoc])
                        have hlen : (l ++ List.replicate k xl).length = l.length + k := by rw [List.length_append, List.length_replicate]
                        generalize l ++ List.replicate k xl = l2 at *
                        have HL1 := hid (show l2.length + 1 ≤ maxLen by have := HFIT.out; unfold maxLen; omega)
                        have HL2 := hid (show (l2.length + 1) * 8 ≤ 140737488355328 by have := HFIT.out; omega)
                        have HSZ := hid HK.out.size
                        clear hlen
                        go_wp2_with (at_builtin; (refine wpList_append_lies _ (by rfl) _ _ _ (by rfl) wz.heap.size 3 i0 (.int .i64 0) 1 8 und22' HII.out hz0 hz1 hz2 (by rfl) (by decide) (.slice A2 l2.length cap2) l2.length _ (by rfl) (HO.out.alloc _) ⟨wr.heap.size, 0, none⟩ 1 1 [.int .i64 (xl : Int)] (by rfl) (by rfl) (World.news_of_block (heap_alloc_new _ _)) (by simp [Value.oneCell']) (by decide) HL1.out HL2.out (by have := HSZ.out; simp; omega) (wr.heap.size + 1) (by simp) ?_); intro g1 cap1 w7 hown1 hgrow1 hat1 hlt1; have R7 := hid (OwnI.snoc (x := xl) HO.out (Below.refl _ _) HSZ.out hown1 hgrow1); have HB7 := hid ((Below.refl wr.heap.size wr).alloc (Nat.le_refl _) (.cells #[.int .i64 (xl : Int)] 3)); have X7 := hid ((HX.out.grow HB7.out).grownI (HO.out.alloc _) hgrow1); have K7 := hid ((HK.out.trans (Kp.of_below HB7.out (Nat.le_trans HBC2.out HSZ.out))).grownI HBC2.out (HO.out.alloc _) hgrow1); clear hown1 hgrow1 hat1 hlt1)
                        try (go_wp2_with fail)
                        go_roundg (T - (k + 1))
                        case rel => exact ⟨k + 1, rfl, hkT, by go_num, by rw [HSR.out]; exact R7.out.1, X7.out, K7.out, (fun e h => by cases h)⟩
                        case measure => omega
                      · obtain rfl : T = k := by omega
                        have hki : ¬ (T : Int) < (T : Int) := by omega
                        have hlen : (l ++ List.replicate T xl).length = l.length + T := by rw [List.length_append, List.length_replicate]
                        go_wp2_with fail
                        go_roundg (meas L (.ok a6 q6 : Res Nat))
                        case measure => simp only [meas]; omega
                        case rel => exact ⟨l ++ List.replicate T xl, .ok a6 q6, F2, rfl, (by first | exact HO.out | (have h := HO.out; rw [hlen] at h; exact h)), small_app HSM.out xl T hV15, by rw [hlen]; exact HFIT.out, HX.out, HK.out, (fun a q e => by cases e; exact ⟨HK1.out, by omega⟩), HR.out.trans HSTEP.out⟩
              · skip
                obtain ⟨r', hr'⟩ : ∃ r', r' = on X L r1 (take 3) := ⟨_, rfl⟩
                have HT0 := hid (fun W (hw : Xs W S R s t most r1) => HTK.out 3 (by omega) r1 W hw)
                rw [← hr'] at HT0
                have hvm : valOr r' < 8 := by rw [hr']; exact valOr_take
                have HRUN0 := hid hr'
                clear hr'
                obtain ⟨m, hm⟩ : ∃ m, m = valOr r' := ⟨_, rfl⟩
                rw [← hm] at HT0 hvm
                obtain ⟨T, hT⟩ : ∃ T, 3 + m = T := ⟨_, rfl⟩
                have e3 : IntKind.i64.wrap (3 + (m : Int)) = (T : Int) := by rw [IntWalk.i64_in _ (by omega)]; omega
                have HRZ := hid (runX17 X L r1 l)
                rw [← HRUN0.out] at HRZ
                rw [← hm, hT] at HRZ
                have HRUN := HRZ
                have HQ := hid (show ∀ a' q', r' = .ok a' q' → q < q' ∧ (0 : Nat) ≤ 15 from fun a' q' e => by
                  rw [HRUN0.out] at e
                  obtain ⟨b, q0, e2, e3⟩ := on_take_ok e
                  have := HPOS.out _ _ e2
                  exact ⟨by omega, by omega⟩)
                have hT1 : 1 ≤ T := by omega
                have hT2 : T ≤ 200 := by omega
                clear hcell hvm hT hm HRUN0
                have XP := X3
                have KP := K3
                have OP := O3
                go_wp2_with fail

                refine (HT0.out _ XP.out).mono ?_
                rintro e w5 ⟨⟨rfl, x5⟩, k5⟩
                have X5 := hid x5
                have K5 := hid (KP.out.trans k5)
                have O5 := hid (OP.out.kpR k5)
                clear x5 k5

                have HM6 := hid (fun W (hw : Xs W S R s t most r') => HMU.out (decide (l.length + T ≤ N + M)) r' W hw)
                obtain ⟨r6, h6⟩ : ∃ r6, r6 = must (decide (l.length + T ≤ N + M)) r' := ⟨_, rfl⟩
                rw [← h6] at HM6
                have HSTEP := hid (row_step (F := F2) hlt H1.out (by rw [← HC.out]; exact HRUN.out) h6)
                have HD6 := hid (show decide ((l.length : Int) + (T : Int) ≤ (N : Int) + (M : Int)) = decide (l.length + T ≤ N + M) from decide_eq_decide.2 ⟨fun h => by omega, fun h => by omega⟩)
                have H6 := hid (fun a' q' (e : r6 = .ok a' q') => must_of (h6.symm.trans e))
                clear h6
                go_wp2_with fail
                rw [HD6.out]
                refine (HM6.out _ X5.out).mono ?_
                rintro e w6 ⟨⟨rfl, x6⟩, k6⟩
                have X6 := hid x6
                have K6 := hid (K5.out.trans k6)
                have O6 := hid (O5.out.kpR k6)
                clear x6 k6 HM6 HD6 X5 K5 O5 HMU HTK HNX HLC HCOD
                go_wp2_with fail
                go_loopg [11, 15] T (fun gk rv i wr2 => ∃ k : Nat, gk = T - k ∧ k ≤ T ∧ i = .int .i64 (k : Int) ∧ OwnI wr2 wz.heap.size rv (l ++ List.replicate k 0) ∧ Xs wr2 S R s t most r6 ∧ Kp TR B wz wr2 ∧ (∀ e, r6 = .bad e → k = 0))
                case atStart => exact ⟨0, rfl, Nat.zero_le _, rfl, by rw [List.replicate_zero, List.append_nil]; exact O6.out, X6.out, K6.out, fun _ _ => rfl⟩
                case round =>
                  obtain ⟨k, rfl, hk, rfl, hown, hx, hkp, hz⟩ := hrel
                  obtain ⟨A2, cap2, gg2, hv, _⟩ := OwnI.form hown
                  subst hv
                  have HO := hid hown
                  have HX := hid hx
                  have HK := hid hkp
                  have c3 := hx.c3
                  clear hown hx hkp X6 K6 O6
                  cases r6 with
                  | bad e =>
                    obtain rfl := hz e rfl
                    obtain ⟨n1, n2⟩ := HX.out.told.ne rfl
                    simp only [whyOf] at c3
                    have ht0 : (0 : Int) < (T : Int) := by omega
                    rw [List.replicate_zero, List.append_nil] at HO
                    rw [show (l ++ List.replicate 0 0) = l by rw [List.replicate_zero, List.append_nil]]
                    go_wp2_with fail
                    go_roundg (meas L (.bad e : Res Nat))
                    case measure => simp only [meas]; omega
                    case rel => exact ⟨l, .bad e, F2, rfl, HO.out, HSM.out, hll, HX.out, HK.out, (fun a q e => by cases e), HR.out.trans (HSTEP.out.trans rfl)⟩
                  | ok a6 q6 =>
                    obtain ⟨h61, h62⟩ := H6.out a6 q6 rfl
                    obtain ⟨hq6, hV15⟩ := HQ.out a6 q6 h61
                    have HFIT := hid (of_decide_eq_true h62)
                    have hq6L : q6 ≤ L := by rw [hL]; exact HX.out.inn a6 q6 rfl
                    simp only [whyOf] at c3
                    clear h61 h62 hz
                    by_cases hkT : k < T
                    · have hki : (k : Int) < (T : Int) := by omega
                      have HSR := hid (show l ++ List.replicate (k + 1) 0 = (l ++ List.replicate k 0) ++ [0] by rw [List.replicate_succ', List.append_assoc])
                      have hlen : (l ++ List.replicate k 0).length = l.length + k := by rw [List.length_append, List.length_replicate]
                      generalize l ++ List.replicate k 0 = l2 at *
                      have HL1 := hid (show l2.length + 1 ≤ maxLen by have := HFIT.out; unfold maxLen; omega)
                      have HL2 := hid (show (l2.length + 1) * 8 ≤ 140737488355328 by have := HFIT.out; omega)
                      have HSZ := hid HK.out.size
                      clear hlen
                      go_wp2_with (at_builtin; (refine wpList_append_lies _ (by rfl) _ _ _ (by rfl) wz.heap.size 3 i0 (.int .i64 0) 1 8 und22' HII.out hz0 hz1 hz2 (by rfl) (by decide) (.slice A2 l2.length cap2) l2.length _ (by rfl) (HO.out.alloc _) ⟨wr.heap.size, 0, none⟩ 1 1 [.int .i64 0] (by rfl) (by rfl) (World.news_of_block (heap_alloc_new _ _)) (by simp [Value.oneCell']) (by decide) HL1.out HL2.out (by have := HSZ.out; simp; omega) (wr.heap.size + 1) (by simp) ?_); intro g1 cap1 w7 hown1 hgrow1 hat1 hlt1; have R7 := hid (OwnI.snoc (x := 0) HO.out (Below.refl _ _) HSZ.out hown1 hgrow1); have HB7 := hid ((Below.refl wr.heap.size wr).alloc (Nat.le_refl _) (.cells #[.int .i64 0] 3)); have X7 := hid ((HX.out.grow HB7.out).grownI (HO.out.alloc _) hgrow1); have K7 := hid ((HK.out.trans (Kp.of_below HB7.out (Nat.le_trans HBC2.out HSZ.out))).grownI HBC2.out (HO.out.alloc _) hgrow1); clear hown1 hgrow1 hat1 hlt1)
                      try (go_wp2_with fail)
                      go_roundg (T - (k + 1))
                      case rel => exact ⟨k + 1, rfl, hkT, by go_num, by rw [HSR.out]; exact R7.out.1, X7.out, K7.out, (fun e h => by cases h)⟩
                      case measure => omega
                    · obtain rfl : T = k := by omega
                      have hki : ¬ (T : Int) < (T : Int) := by omega
                      have hlen : (l ++ List.replicate T 0).length = l.length + T := by rw [List.length_append, List.length_replicate]
                      go_wp2_with fail
                      go_roundg (meas L (.ok a6 q6 : Res Nat))
                      case measure => simp only [meas]; omega
                      case rel => exact ⟨l ++ List.replicate T 0, .ok a6 q6, F2, rfl, (by first | exact HO.out | (have h := HO.out; rw [hlen] at h; exact h)), small_app HSM.out 0 T hV15, by rw [hlen]; exact HFIT.out, HX.out, HK.out, (fun a q e => by cases e; exact ⟨HK1.out, by omega⟩), HR.out.trans HSTEP.out⟩
              · skip
                obtain ⟨r', hr'⟩ : ∃ r', r' = on X L r1 (take 7) := ⟨_, rfl⟩
                have HT0 := hid (fun W (hw : Xs W S R s t most r1) => HTK.out 7 (by omega) r1 W hw)
                rw [← hr'] at HT0
                have hvm : valOr r' < 128 := by rw [hr']; exact valOr_take
                have HRUN0 := hid hr'
                clear hr'
                obtain ⟨m, hm⟩ : ∃ m, m = valOr r' := ⟨_, rfl⟩
                rw [← hm] at HT0 hvm
                obtain ⟨T, hT⟩ : ∃ T, 11 + m = T := ⟨_, rfl⟩
                have e3 : IntKind.i64.wrap (11 + (m : Int)) = (T : Int) := by rw [IntWalk.i64_in _ (by omega)]; omega
                have HRZ := hid (runX18 X L r1 l)
                rw [← HRUN0.out] at HRZ
                rw [← hm, hT] at HRZ
                have HRUN := HRZ
                have HQ := hid (show ∀ a' q', r' = .ok a' q' → q < q' ∧ (0 : Nat) ≤ 15 from fun a' q' e => by
                  rw [HRUN0.out] at e
                  obtain ⟨b, q0, e2, e3⟩ := on_take_ok e
                  have := HPOS.out _ _ e2
                  exact ⟨by omega, by omega⟩)
                have hT1 : 1 ≤ T := by omega
                have hT2 : T ≤ 200 := by omega
                clear hcell hvm hT hm HRUN0
                have XP := X3
                have KP := K3
                have OP := O3
                go_wp2_with fail

                refine (HT0.out _ XP.out).mono ?_
                rintro e w5 ⟨⟨rfl, x5⟩, k5⟩
                have X5 := hid x5
                have K5 := hid (KP.out.trans k5)
                have O5 := hid (OP.out.kpR k5)
                clear x5 k5

                have HM6 := hid (fun W (hw : Xs W S R s t most r') => HMU.out (decide (l.length + T ≤ N + M)) r' W hw)
                obtain ⟨r6, h6⟩ : ∃ r6, r6 = must (decide (l.length + T ≤ N + M)) r' := ⟨_, rfl⟩
                rw [← h6] at HM6
                have HSTEP := hid (row_step (F := F2) hlt H1.out (by rw [← HC.out]; exact HRUN.out) h6)
                have HD6 := hid (show decide ((l.length : Int) + (T : Int) ≤ (N : Int) + (M : Int)) = decide (l.length + T ≤ N + M) from decide_eq_decide.2 ⟨fun h => by omega, fun h => by omega⟩)
                have H6 := hid (fun a' q' (e : r6 = .ok a' q') => must_of (h6.symm.trans e))
                clear h6
                go_wp2_with fail
                rw [HD6.out]
                refine (HM6.out _ X5.out).mono ?_
                rintro e w6 ⟨⟨rfl, x6⟩, k6⟩
                have X6 := hid x6
                have K6 := hid (K5.out.trans k6)
                have O6 := hid (O5.out.kpR k6)
                clear x6 k6 HM6 HD6 X5 K5 O5 HMU HTK HNX HLC HCOD
                go_wp2_with fail
                go_loopg [11, 15] T (fun gk rv i wr2 => ∃ k : Nat, gk = T - k ∧ k ≤ T ∧ i = .int .i64 (k : Int) ∧ OwnI wr2 wz.heap.size rv (l ++ List.replicate k 0) ∧ Xs wr2 S R s t most r6 ∧ Kp TR B wz wr2 ∧ (∀ e, r6 = .bad e → k = 0))
                case atStart => exact ⟨0, rfl, Nat.zero_le _, rfl, by rw [List.replicate_zero, List.append_nil]; exact O6.out, X6.out, K6.out, fun _ _ => rfl⟩
                case round =>
                  obtain ⟨k, rfl, hk, rfl, hown, hx, hkp, hz⟩ := hrel
                  obtain ⟨A2, cap2, gg2, hv, _⟩ := OwnI.form hown
                  subst hv
                  have HO := hid hown
                  have HX := hid hx
                  have HK := hid hkp
                  have c3 := hx.c3
                  clear hown hx hkp X6 K6 O6
                  cases r6 with
                  | bad e =>
                    obtain rfl := hz e rfl
                    obtain ⟨n1, n2⟩ := HX.out.told.ne rfl
                    simp only [whyOf] at c3
                    have ht0 : (0 : Int) < (T : Int) := by omega
                    rw [List.replicate_zero, List.append_nil] at HO
                    rw [show (l ++ List.replicate 0 0) = l by rw [List.replicate_zero, List.append_nil]]
                    go_wp2_with fail
                    go_roundg (meas L (.bad e : Res Nat))
                    case measure => simp only [meas]; omega
                    case rel => exact ⟨l, .bad e, F2, rfl, HO.out, HSM.out, hll, HX.out, HK.out, (fun a q e => by cases e), HR.out.trans (HSTEP.out.trans rfl)⟩
                  | ok a6 q6 =>
                    obtain ⟨h61, h62⟩ := H6.out a6 q6 rfl
                    obtain ⟨hq6, hV15⟩ := HQ.out a6 q6 h61
                    have HFIT := hid (of_decide_eq_true h62)
                    have hq6L : q6 ≤ L := by rw [hL]; exact HX.out.inn a6 q6 rfl
                    simp only [whyOf] at c3
                    clear h61 h62 hz
                    by_cases hkT : k < T
                    · have hki : (k : Int) < (T : Int) := by omega
                      have HSR := hid (show l ++ List.replicate (k + 1) 0 = (l ++ List.replicate k 0) ++ [0] by rw [List.replicate_succ', List.append_assoc])
                      have hlen : (l ++ List.replicate k 0).length = l.length + k := by rw [List.length_append, List.length_replicate]
                      generalize l ++ List.replicate k 0 = l2 at *
                      have HL1 := hid (show l2.length + 1 ≤ maxLen by have := HFIT.out; unfold maxLen; omega)
                      have HL2 := hid (show (l2.length + 1) * 8 ≤ 140737488355328 by have := HFIT.out; omega)
                      have HSZ := hid HK.out.size
                      clear hlen
                      go_wp2_with (at_builtin; (refine wpList_append_lies _ (by rfl) _ _ _ (by rfl) wz.heap.size 3 i0 (.int .i64 0) 1 8 und22' HII.out hz0 hz1 hz2 (by rfl) (by decide) (.slice A2 l2.length cap2) l2.length _ (by rfl) (HO.out.alloc _) ⟨wr.heap.size, 0, none⟩ 1 1 [.int .i64 0] (by rfl) (by rfl) (World.news_of_block (heap_alloc_new _ _)) (by simp [Value.oneCell']) (by decide) HL1.out HL2.out (by have := HSZ.out; simp; omega) (wr.heap.size + 1) (by simp) ?_); intro g1 cap1 w7 hown1 hgrow1 hat1 hlt1; have R7 := hid (OwnI.snoc (x := 0) HO.out (Below.refl _ _) HSZ.out hown1 hgrow1); have HB7 := hid ((Below.refl wr.heap.size wr).alloc (Nat.le_refl _) (.cells #[.int .i64 0] 3)); have X7 := hid ((HX.out.grow HB7.out).grownI (HO.out.alloc _) hgrow1); have K7 := hid ((HK.out.trans (Kp.of_below HB7.out (Nat.le_trans HBC2.out HSZ.out))).grownI HBC2.out (HO.out.alloc _) hgrow1); clear hown1 hgrow1 hat1 hlt1)
                      try (go_wp2_with fail)
                      go_roundg (T - (k + 1))
                      case rel => exact ⟨k + 1, rfl, hkT, by go_num, by rw [HSR.out]; exact R7.out.1, X7.out, K7.out, (fun e h => by cases h)⟩
                      case measure => omega
                    · obtain rfl : T = k := by omega
                      have hki : ¬ (T : Int) < (T : Int) := by omega
                      have hlen : (l ++ List.replicate T 0).length = l.length + T := by rw [List.length_append, List.length_replicate]
                      go_wp2_with fail
                      go_roundg (meas L (.ok a6 q6 : Res Nat))
                      case measure => simp only [meas]; omega
                      case rel => exact ⟨l ++ List.replicate T 0, .ok a6 q6, F2, rfl, (by first | exact HO.out | (have h := HO.out; rw [hlen] at h; exact h)), small_app HSM.out 0 T hV15, by rw [hlen]; exact HFIT.out, HX.out, HK.out, (fun a q e => by cases e; exact ⟨HK1.out, by omega⟩), HR.out.trans HSTEP.out⟩
              · have e16 : ((c : Int) == 16) = false := beq_eq_false_iff_ne.2 (by omega)
                have e17 : ((c : Int) == 17) = false := beq_eq_false_iff_ne.2 (by omega)
                have e18 : ((c : Int) == 18) = false := beq_eq_false_iff_ne.2 (by omega)
                obtain ⟨r', hr'⟩ : ∃ r', r' = r1 := ⟨_, rfl⟩
                have HRUN := hid (show on X L r1 (runP c l) = on X L r' (ret (c, 1)) from by rw [hr']; exact runX X L r1 c l z16 z17 z18)
                have HQ := hid (show ∀ a' q', r' = .ok a' q' → q < q' ∧ c ≤ 15 from fun a' q' e => by
                  rw [hr'] at e
                  exact ⟨HPOS.out _ _ e, by omega⟩)
                have hT1 : 1 ≤ 1 := by omega
                have hT2 : 1 ≤ 200 := by omega
                have X5 := hid (show Xs w3 S R s t most r' from by rw [hr']; exact X3.out)
                have K5 := K3
                have O5 := O3
                clear hcell hr' z16 z17 z18
                have HM6 := hid (fun W (hw : Xs W S R s t most r') => HMU.out (decide (l.length + 1 ≤ N + M)) r' W hw)
                obtain ⟨r6, h6⟩ : ∃ r6, r6 = must (decide (l.length + 1 ≤ N + M)) r' := ⟨_, rfl⟩
                rw [← h6] at HM6
                have HSTEP := hid (row_step (F := F2) hlt H1.out (by rw [← HC.out]; exact HRUN.out) h6)
                have HD6 := hid (show decide ((l.length : Int) + 1 ≤ (N : Int) + (M : Int)) = decide (l.length + 1 ≤ N + M) from decide_eq_decide.2 ⟨fun h => by omega, fun h => by omega⟩)
                have H6 := hid (fun a' q' (e : r6 = .ok a' q') => must_of (h6.symm.trans e))
                clear h6
                go_wp2_with fail
                rw [HD6.out]
                refine (HM6.out _ X5.out).mono ?_
                rintro e w6 ⟨⟨rfl, x6⟩, k6⟩
                have X6 := hid x6
                have K6 := hid (K5.out.trans k6)
                have O6 := hid (O5.out.kpR k6)
                clear x6 k6 HM6 HD6 X5 K5 O5 HMU HTK HNX HLC HCOD
                go_wp2_with fail
                go_loopg [11, 15] 1 (fun gk rv i wr2 => ∃ k : Nat, gk = 1 - k ∧ k ≤ 1 ∧ i = .int .i64 (k : Int) ∧ OwnI wr2 wz.heap.size rv (l ++ List.replicate k c) ∧ Xs wr2 S R s t most r6 ∧ Kp TR B wz wr2 ∧ (∀ e, r6 = .bad e → k = 0))
                case atStart => exact ⟨0, rfl, Nat.zero_le _, rfl, by rw [List.replicate_zero, List.append_nil]; exact O6.out, X6.out, K6.out, fun _ _ => rfl⟩
                case round =>
                  obtain ⟨k, rfl, hk, rfl, hown, hx, hkp, hz⟩ := hrel
                  obtain ⟨A2, cap2, gg2, hv, _⟩ := OwnI.form hown
                  subst hv
                  have HO := hid hown
                  have HX := hid hx
                  have HK := hid hkp
                  have c3 := hx.c3
                  clear hown hx hkp X6 K6 O6
                  cases r6 with
                  | bad e =>
                    obtain rfl := hz e rfl
                    obtain ⟨n1, n2⟩ := HX.out.told.ne rfl
                    simp only [whyOf] at c3
                    have ht0 : (0 : Int) < 1 := by omega
                    rw [List.replicate_zero, List.append_nil] at HO
                    rw [show (l ++ List.replicate 0 c) = l by rw [List.replicate_zero, List.append_nil]]
                    go_wp2_with fail
                    go_roundg (meas L (.bad e : Res Nat))
                    case measure => simp only [meas]; omega
                    case rel => exact ⟨l, .bad e, F2, rfl, HO.out, HSM.out, hll, HX.out, HK.out, (fun a q e => by cases e), HR.out.trans (HSTEP.out.trans rfl)⟩
                  | ok a6 q6 =>
                    obtain ⟨h61, h62⟩ := H6.out a6 q6 rfl
                    obtain ⟨hq6, hV15⟩ := HQ.out a6 q6 h61
                    have HFIT := hid (of_decide_eq_true h62)
                    have hq6L : q6 ≤ L := by rw [hL]; exact HX.out.inn a6 q6 rfl
                    simp only [whyOf] at c3
                    clear h61 h62 hz
                    by_cases hkT : k < 1
                    · have hki : (k : Int) < 1 := by omega
                      have HSR := hid (show l ++ List.replicate (k + 1) c = (l ++ List.replicate k c) ++ [c] by rw [List.replicate_succ', List.append_assoc])
                      have hlen : (l ++ List.replicate k c).length = l.length + k := by rw [List.length_append, List.length_replicate]
                      generalize l ++ List.replicate k c = l2 at *
                      have HL1 := hid (show l2.length + 1 ≤ maxLen by have := HFIT.out; unfold maxLen; omega)
                      have HL2 := hid (show (l2.length + 1) * 8 ≤ 140737488355328 by have := HFIT.out; omega)
                      have HSZ := hid HK.out.size
                      clear hlen
                      go_wp2_with (at_builtin; (refine wpList_append_lies _ (by rfl) _ _ _ (by rfl) wz.heap.size 3 i0 (.int .i64 0) 1 8 und22' HII.out hz0 hz1 hz2 (by rfl) (by decide) (.slice A2 l2.length cap2) l2.length _ (by rfl) (HO.out.alloc _) ⟨wr.heap.size, 0, none⟩ 1 1 [.int .i64 (c : Int)] (by rfl) (by rfl) (World.news_of_block (heap_alloc_new _ _)) (by simp [Value.oneCell']) (by decide) HL1.out HL2.out (by have := HSZ.out; simp; omega) (wr.heap.size + 1) (by simp) ?_); intro g1 cap1 w7 hown1 hgrow1 hat1 hlt1; have R7 := hid (OwnI.snoc (x := c) HO.out (Below.refl _ _) HSZ.out hown1 hgrow1); have HB7 := hid ((Below.refl wr.heap.size wr).alloc (Nat.le_refl _) (.cells #[.int .i64 (c : Int)] 3)); have X7 := hid ((HX.out.grow HB7.out).grownI (HO.out.alloc _) hgrow1); have K7 := hid ((HK.out.trans (Kp.of_below HB7.out (Nat.le_trans HBC2.out HSZ.out))).grownI HBC2.out (HO.out.alloc _) hgrow1); clear hown1 hgrow1 hat1 hlt1)
                      try (go_wp2_with fail)
                      go_roundg (1 - (k + 1))
                      case rel => exact ⟨k + 1, rfl, hkT, by go_num, by rw [HSR.out]; exact R7.out.1, X7.out, K7.out, (fun e h => by cases h)⟩
                      case measure => omega
                    · obtain rfl : 1 = k := by omega
                      have hki : ¬ 1 < 1 := by omega
                      have hlen : (l ++ List.replicate 1 c).length = l.length + 1 := by rw [List.length_append, List.length_replicate]
                      go_wp2_with fail
                      go_roundg (meas L (.ok a6 q6 : Res Nat))
                      case measure => simp only [meas]; omega
                      case rel => exact ⟨l ++ List.replicate 1 c, .ok a6 q6, F2, rfl, (by first | exact HO.out | (have h := HO.out; rw [hlen] at h; exact h)), small_app HSM.out c 1 hV15, by rw [hlen]; exact HFIT.out, HX.out, HK.out, (fun a q e => by cases e; exact ⟨HK1.out, by omega⟩), HR.out.trans HSTEP.out⟩
            · have hll2 : l.length = N + M := by omega
              have g1 : ¬ (N : Int) + (M : Int) < (N : Int) + (M : Int) := by omega
              obtain ⟨F2, rfl⟩ : ∃ F2, F' = F2 + 1 := ⟨F' - 1, by omega⟩
              have hrow : on X L r5 (rowF f (N + M) F []) = on X L (.ok a q : Res Nat) (ret l) := by
                rw [← HRW.out, HR.out, on_ok, on_ok]
                conv => lhs; unfold rowF
                rw [if_neg hlt]
              have hfin : rr = on X L (.ok a q : Res Nat) (if tabOk l N then ret (l.take N, l.drop N) else fail 2) := by rw [HR5.out]; exact on_then _ hrow
              rw [on_if] at hfin
              obtain ⟨gr, rcap, hrv, hgr, hcapN, hcells⟩ := OwnI.form2 HOW.out hll2 (by omega)
              simp only [Value.slice.injEq] at hrv
              obtain ⟨rfl, _, rfl⟩ := hrv
              have hlm : l.length - N = M := by omega
              have hs1 := small_take HSM.out N
              have hs2 := small_drop HSM.out N
              have he1 : (l.take N).length = N := by simp; omega
              have he2 : (l.drop N).length = M := by simp; omega
              have hf1 : ∀ i, i < N → fnL l i = fnL (l.take N) i := fun i hi => by
                unfold fnL
                simp only [List.getD_eq_getElem?_getD]
                rw [List.getElem?_take_of_lt hi]
              have hf2 : ∀ i, i < M → fnL l (N + i) = fnL (l.drop N) i := fun i hi => by
                unfold fnL
                simp only [List.getD_eq_getElem?_getD]
                rw [List.getElem?_drop]
              have hab := hid (show rr = on X L (must (decide (tabOk l N)) (.ok a q : Res Nat)) (ret (l.take N, l.drop N)) from hfin)
              have hN286 : N ≤ 288 := by omega
              have ho1 : okB (lx (l.take N)) N = decide (lensOk (fnL (l.take N)) N) := by have h := okB_lx (l := l.take N) (by omega) hs1; rw [he1] at h; exact h
              have ho2 : okB (lx (l.drop N)) M = decide (lensOk (fnL (l.drop N)) M) := by have h := okB_lx (l := l.drop N) (by omega) hs2; rw [he2] at h; exact h
              have hk3 : kindI (lx (l.drop N)) M = kindOf (wT (fnL (l.drop N)) M) := by have h := kindI_lx (l := l.drop N) (by omega) hs2; rw [he2] at h; exact h
              have hkl := kindI_le (lx (l.drop N)) M
              rw [hk3] at hkl
              have h256 : fnL l 256 = fnL (l.take N) 256 := hf1 256 (by omega)
              have c256 := hcells 256 (by omega)
              have HI1 := hid (show Ints wr gr 0 N (lx (l.take N)) from ⟨fun _ => hgr, fun i hi => by rw [Nat.zero_add, hcells i (by omega)]; simp only [lx]; rw [hf1 i hi]⟩)
              have HI2 := hid (show Ints wr gr N M (lx (l.drop N)) from ⟨fun _ => hgr, fun i hi => by rw [hcells (N + i) (by omega)]; simp only [lx]; rw [hf2 i hi]⟩)
              have HINT := hid (show ∀ W, Kp TR B wr W → Ints W gr 0 N (lx (l.take N)) ∧ Ints W gr N M (lx (l.drop N)) ∧ ∃ cs q, W.heap[gr]? = some (.cells cs 3 q) from fun W k => by
                have ho := HOW.out.kpR k
                obtain ⟨gr2, rcap2, hrv2, hgr2, _, hc2⟩ := OwnI.form2 ho hll2 (by omega)
                simp only [Value.slice.injEq, Option.some.injEq, Addr.mk.injEq] at hrv2
                obtain ⟨⟨rfl, _⟩, _⟩ := hrv2
                exact ⟨⟨fun _ => hgr2, fun i hi => by rw [Nat.zero_add, hc2 i (by omega)]; simp only [lx]; rw [hf1 i hi]⟩, ⟨fun _ => hgr2, fun i hi => by rw [hc2 (N + i) (by omega)]; simp only [lx]; rw [hf2 i hi]⟩, by
                  rcases ho.2 with ⟨h1, _⟩ | ⟨g3, cap3, cur, h1, _, hg, _⟩
                  · cases h1
                  · simp only [Value.slice.injEq, Option.some.injEq, Addr.mk.injEq] at h1
                    rw [h1.1.1]
                    exact ⟨cur, _, hg⟩⟩)
              have htab : decide (tabOk l N) = (decide (0 < fnL l 256) && decide (lensOk (fnL (l.take N)) N) && (decide (kindOf (wT (fnL (l.drop N)) M) = 0) || decide (lensOk (fnL (l.drop N)) M))) := by
                rw [Bool.eq_iff_iff]
                simp only [decide_eq_true_eq, Bool.and_eq_true, Bool.or_eq_true]
                unfold tabOk
                rw [hlm, and_assoc]
              generalize l.take N = f1 at *
              generalize l.drop N = f2 at *
              obtain ⟨ok1, hok1⟩ : ∃ ok1 : Bool, ok1 = decide (lensOk (fnL f1) N) := ⟨_, rfl⟩
              obtain ⟨ok2, hok2⟩ : ∃ ok2 : Bool, ok2 = decide (lensOk (fnL f2) M) := ⟨_, rfl⟩
              rw [← hok1, ← hok2] at htab
              have HG1 := hid (fun W (hi : Ints W gr 0 N (lx f1)) => by have hc := refLengthsW (some ⟨gr, 0, none⟩) gr 0 N cap (lx f1) W (fun _ => rfl) hi (by omega); rw [ho1, ← hok1] at hc; exact hc)
              have HG2 := hid (fun W (hi : Ints W gr N M (lx f2)) => by have hc := refLengthsW (some ⟨gr, N, none⟩) gr N M (cap - N) (lx f2) W (fun _ => rfl) hi (by omega); rw [ho2, ← hok2] at hc; exact hc)
              have HG3 := hid (fun W (hi : Ints W gr N M (lx f2)) => by have hc := refKindW (some ⟨gr, N, none⟩) gr N M (cap - N) (lx f2) W (fun _ => rfl) hi (by omega); rw [hk3] at hc; exact hc)
              have HE1 := hid he1
              have HE2 := hid he2
              have HS1 := hid hs1
              have HS2 := hid hs2
              clear ho1 ho2 hok1 hok2 hk3 hfin hrow hf1 hf2 hcells hcell he1 he2 hs1 hs2 h256 hlm HLC HCOD HTK HNX
              generalize kindOf (wT (fnL f2) M) = kd at *
              generalize fnL l 256 = y at *
              rw [htab] at hab
              have HAB := hab
              clear htab hab
              have g2 : (N : Int) ≤ (cap : Int) := by omega
              have gN : (256 : Int) < (N : Int) + (M : Int) := by omega
              have gN2 : 256 < N + M := by omega
              have hMp := hid (show 1 ≤ M ∧ M ≤ 32 ∧ N ≤ 288 from ⟨hMb, hMt, hNt⟩)
              rw [hll2]
              by_cases p0 : y = 0
              · obtain rfl : y = 0 := p0
                obtain ⟨B1, hB1⟩ : ∃ B1 : Bool, B1 = false := ⟨_, rfl⟩
                have HB1 := hid (show (decide (0 < 0) && ok1) = B1 from by rw [hB1]; rfl)
                have HM7 := hid (fun W (hw : Xs W S R s t most (.ok a q : Res Nat)) => HMU.out false (.ok a q) W hw)
                obtain ⟨r7, h7⟩ : ∃ r7, r7 = must false (.ok a q : Res Nat) := ⟨_, rfl⟩
                rw [← h7] at HM7
                have H7 := hid (show r7 = must B1 (.ok a q : Res Nat) from by rw [h7, hB1])
                have HZ := hid hB1
                clear h7 hB1
                go_wp2_with fail

                refine (HM7.out _ XR.out).mono ?_
                rintro e w7 ⟨⟨rfl, x7⟩, k7⟩
                have X7 := hid x7
                have K7 := hid k7
                clear x7 k7 c3 c256
                by_cases p1 : kd = 0
                · obtain rfl : kd = 0 := p1
                  have HM8 := hid (fun W (hw : Xs W S R s t most r7) => HMU.out true r7 W hw)
                  obtain ⟨r8, h8⟩ : ∃ r8, r8 = must true r7 := ⟨_, rfl⟩
                  rw [← h8] at HM8
                  have H8 := hid (show r8 = must B1 (.ok a q : Res Nat) from by rw [h8, must_true]; exact H7.out)
                  have HAB2 := hid (show rr = on X L (must B1 (.ok a q : Res Nat)) (ret (f1, f2)) from by rw [HAB.out, HB1.out]; simp)
                  clear h8
                  go_wp2_with fail
                  refine (HG3.out _ (HINT.out _ K7.out).2.1).mono ?_
                  rintro e w8 ⟨rfl, rfl⟩
                  go_wp2_with fail

                  refine (HM8.out _ X7.out).mono ?_
                  rintro e w9 ⟨⟨rfl, x8⟩, k8⟩
                  have X8 := hid x8
                  have K8 := hid (K7.out.trans k8)
                  have c8 := x8.c3
                  clear x8 k8
                  cases r8 with
                  | bad e =>
                    obtain ⟨n1, n2⟩ := X8.out.told.ne rfl
                    simp only [whyOf] at c8
                    have HFIN := hid (show rr = .bad e from by rw [HAB2.out, ← H8.out]; rfl)
                    go_wp2_with fail
                    go_returns
                    exact ⟨⟨none, 0, 0, 0, 0, none, 0, 0, 0, 0, [], [], rfl, rfl, rfl, ⟨⟨fun h => absurd h (Nat.lt_irrefl _), ⟨fun h => absurd h (Nat.lt_irrefl _), fun i hi => absurd hi (Nat.not_lt_zero _)⟩, Nat.zero_le _, fun i hi => absurd hi (Nat.not_lt_zero _)⟩, fun h => absurd h (Nat.lt_irrefl _)⟩, ⟨⟨fun h => absurd h (Nat.lt_irrefl _), ⟨fun h => absurd h (Nat.lt_irrefl _), fun i hi => absurd hi (Nat.not_lt_zero _)⟩, Nat.zero_le _, fun i hi => absurd hi (Nat.not_lt_zero _)⟩, fun h => absurd h (Nat.lt_irrefl _)⟩, X8.out.as (by rw [HFIN.out]; rfl) (fun b p h => by rw [HFIN.out] at h; cases h) (by rw [HFIN.out]; intro g h; cases h; exact X8.out.told _ rfl), (fun a q h => by rw [HFIN.out] at h; cases h), fun f h => ⟨rfl, rfl⟩⟩, KZ.out.trans (KR.out.trans K8.out)⟩
                  | ok a8 q8 =>
                    have hx := H8.out
                    rw [HZ.out] at hx
                    cases hx
                · have n0 : (((kd : Nat) : Int) == 0) = false := beq_eq_false_iff_ne.2 (by omega)
                  have HM8 := hid (fun W (hw : Xs W S R s t most r7) => HMU.out ok2 r7 W hw)
                  obtain ⟨r8, h8⟩ : ∃ r8, r8 = must ok2 r7 := ⟨_, rfl⟩
                  rw [← h8] at HM8
                  have H8 := hid (show r8 = must (B1 && ok2) (.ok a q : Res Nat) from by rw [h8, H7.out]; cases B1 <;> cases ok2 <;> rfl)
                  have HAB2 := hid (show rr = on X L (must (B1 && ok2) (.ok a q : Res Nat)) (ret (f1, f2)) from by rw [HAB.out, HB1.out]; simp [p1])
                  clear h8
                  go_wp2_with fail
                  refine (HG3.out _ (HINT.out _ K7.out).2.1).mono ?_
                  rintro e w8 ⟨rfl, rfl⟩
                  go_wp2_with fail
                  refine (HG2.out _ (HINT.out _ K7.out).2.1).mono ?_
                  rintro e w8 ⟨rfl, rfl⟩
                  go_wp2_with fail

                  refine (HM8.out _ X7.out).mono ?_
                  rintro e w9 ⟨⟨rfl, x8⟩, k8⟩
                  have X8 := hid x8
                  have K8 := hid (K7.out.trans k8)
                  have c8 := x8.c3
                  clear x8 k8
                  cases r8 with
                  | bad e =>
                    obtain ⟨n1, n2⟩ := X8.out.told.ne rfl
                    simp only [whyOf] at c8
                    have HFIN := hid (show rr = .bad e from by rw [HAB2.out, ← H8.out]; rfl)
                    go_wp2_with fail
                    go_returns
                    exact ⟨⟨none, 0, 0, 0, 0, none, 0, 0, 0, 0, [], [], rfl, rfl, rfl, ⟨⟨fun h => absurd h (Nat.lt_irrefl _), ⟨fun h => absurd h (Nat.lt_irrefl _), fun i hi => absurd hi (Nat.not_lt_zero _)⟩, Nat.zero_le _, fun i hi => absurd hi (Nat.not_lt_zero _)⟩, fun h => absurd h (Nat.lt_irrefl _)⟩, ⟨⟨fun h => absurd h (Nat.lt_irrefl _), ⟨fun h => absurd h (Nat.lt_irrefl _), fun i hi => absurd hi (Nat.not_lt_zero _)⟩, Nat.zero_le _, fun i hi => absurd hi (Nat.not_lt_zero _)⟩, fun h => absurd h (Nat.lt_irrefl _)⟩, X8.out.as (by rw [HFIN.out]; rfl) (fun b p h => by rw [HFIN.out] at h; cases h) (by rw [HFIN.out]; intro g h; cases h; exact X8.out.told _ rfl), (fun a q h => by rw [HFIN.out] at h; cases h), fun f h => ⟨rfl, rfl⟩⟩, KZ.out.trans (KR.out.trans K8.out)⟩
                  | ok a8 q8 =>
                    have hx := H8.out
                    rw [HZ.out] at hx
                    cases hx
              · have y0 : (0 : Int) < (y : Int) := by omega
                obtain ⟨B1, hB1⟩ : ∃ B1 : Bool, B1 = ok1 := ⟨_, rfl⟩
                have HB1 := hid (show (decide (0 < y) && ok1) = B1 from by rw [hB1, decide_eq_true (by omega)]; rfl)
                have HM7 := hid (fun W (hw : Xs W S R s t most (.ok a q : Res Nat)) => HMU.out ok1 (.ok a q) W hw)
                obtain ⟨r7, h7⟩ : ∃ r7, r7 = must ok1 (.ok a q : Res Nat) := ⟨_, rfl⟩
                rw [← h7] at HM7
                have H7 := hid (show r7 = must B1 (.ok a q : Res Nat) from by rw [h7, hB1])
                clear h7 hB1
                go_wp2_with fail
                refine (HG1.out _ HI1.out).mono ?_
                rintro e w7 ⟨rfl, rfl⟩
                go_wp2_with fail

                refine (HM7.out _ XR.out).mono ?_
                rintro e w7 ⟨⟨rfl, x7⟩, k7⟩
                have X7 := hid x7
                have K7 := hid k7
                clear x7 k7 c3 c256
                by_cases p1 : kd = 0
                · obtain rfl : kd = 0 := p1
                  have HM8 := hid (fun W (hw : Xs W S R s t most r7) => HMU.out true r7 W hw)
                  obtain ⟨r8, h8⟩ : ∃ r8, r8 = must true r7 := ⟨_, rfl⟩
                  rw [← h8] at HM8
                  have H8 := hid (show r8 = must B1 (.ok a q : Res Nat) from by rw [h8, must_true]; exact H7.out)
                  have HAB2 := hid (show rr = on X L (must B1 (.ok a q : Res Nat)) (ret (f1, f2)) from by rw [HAB.out, HB1.out]; simp)
                  clear h8
                  go_wp2_with fail
                  refine (HG3.out _ (HINT.out _ K7.out).2.1).mono ?_
                  rintro e w8 ⟨rfl, rfl⟩
                  go_wp2_with fail

                  refine (HM8.out _ X7.out).mono ?_
                  rintro e w9 ⟨⟨rfl, x8⟩, k8⟩
                  have X8 := hid x8
                  have K8 := hid (K7.out.trans k8)
                  have c8 := x8.c3
                  clear x8 k8
                  cases r8 with
                  | bad e =>
                    obtain ⟨n1, n2⟩ := X8.out.told.ne rfl
                    simp only [whyOf] at c8
                    have HFIN := hid (show rr = .bad e from by rw [HAB2.out, ← H8.out]; rfl)
                    go_wp2_with fail
                    go_returns
                    exact ⟨⟨none, 0, 0, 0, 0, none, 0, 0, 0, 0, [], [], rfl, rfl, rfl, ⟨⟨fun h => absurd h (Nat.lt_irrefl _), ⟨fun h => absurd h (Nat.lt_irrefl _), fun i hi => absurd hi (Nat.not_lt_zero _)⟩, Nat.zero_le _, fun i hi => absurd hi (Nat.not_lt_zero _)⟩, fun h => absurd h (Nat.lt_irrefl _)⟩, ⟨⟨fun h => absurd h (Nat.lt_irrefl _), ⟨fun h => absurd h (Nat.lt_irrefl _), fun i hi => absurd hi (Nat.not_lt_zero _)⟩, Nat.zero_le _, fun i hi => absurd hi (Nat.not_lt_zero _)⟩, fun h => absurd h (Nat.lt_irrefl _)⟩, X8.out.as (by rw [HFIN.out]; rfl) (fun b p h => by rw [HFIN.out] at h; cases h) (by rw [HFIN.out]; intro g h; cases h; exact X8.out.told _ rfl), (fun a q h => by rw [HFIN.out] at h; cases h), fun f h => ⟨rfl, rfl⟩⟩, KZ.out.trans (KR.out.trans K8.out)⟩
                  | ok a8 q8 =>
                    simp only [whyOf] at c8
                    have HFIN := hid (show rr = .ok (f1, f2) q8 from by rw [HAB2.out, ← H8.out]; rfl)
                    have HLS0 := hid (fun nq => HINT.out _ (K8.out.drewN nq))
                    have HX9 := hid (fun nq => X8.out.grow (w' := w9.drewN nq) ⟨rfl, rfl, rfl, Nat.le_refl _, fun _ _ => rfl⟩)
                    have HK9 := hid (fun nq => K8.out.drewN nq)
                    go_upto_region 39 with fail
                    go_quiet (fail)
                    have HLS := hid (HLS0.out nq)
                    have X9 := hid (HX9.out nq)
                    have K9 := hid (HK9.out nq)
                    go_wp2_with fail
                    go_returns
                    exact ⟨⟨some ⟨gr, 0, none⟩, gr, 0, N, cap, some ⟨gr, N, none⟩, gr, N, M, cap - N, f1, f2, by first | rfl | simp, HE1.out, HE2.out, ⟨⟨fun _ => rfl, by rw [HE1.out]; exact HLS.out.1, by rw [HE1.out]; have := hMp.out; omega, HS1.out⟩, fun _ => HLS.out.2.2⟩, ⟨⟨fun _ => rfl, by rw [HE2.out]; exact HLS.out.2.1, by rw [HE2.out]; have := hMp.out; omega, HS2.out⟩, fun _ => HLS.out.2.2⟩, X9.out.as (by rw [HFIN.out]; rfl) (fun b p h => by rw [HFIN.out] at h; cases h; exact ⟨_, rfl⟩) (by rw [HFIN.out]; intro g h; cases h), (fun a q h => by rw [HFIN.out] at h; cases h; rfl), fun f h => (by rw [HFIN.out] at h; cases h)⟩, KZ.out.trans (KR.out.trans K9.out)⟩
                · have n0 : (((kd : Nat) : Int) == 0) = false := beq_eq_false_iff_ne.2 (by omega)
                  have HM8 := hid (fun W (hw : Xs W S R s t most r7) => HMU.out ok2 r7 W hw)
                  obtain ⟨r8, h8⟩ : ∃ r8, r8 = must ok2 r7 := ⟨_, rfl⟩
                  rw [← h8] at HM8
                  have H8 := hid (show r8 = must (B1 && ok2) (.ok a q : Res Nat) from by rw [h8, H7.out]; cases B1 <;> cases ok2 <;> rfl)
                  have HAB2 := hid (show rr = on X L (must (B1 && ok2) (.ok a q : Res Nat)) (ret (f1, f2)) from by rw [HAB.out, HB1.out]; simp [p1])
                  clear h8
                  go_wp2_with fail
                  refine (HG3.out _ (HINT.out _ K7.out).2.1).mono ?_
                  rintro e w8 ⟨rfl, rfl⟩
                  go_wp2_with fail
                  refine (HG2.out _ (HINT.out _ K7.out).2.1).mono ?_
                  rintro e w8 ⟨rfl, rfl⟩
                  go_wp2_with fail

                  refine (HM8.out _ X7.out).mono ?_
                  rintro e w9 ⟨⟨rfl, x8⟩, k8⟩
                  have X8 := hid x8
                  have K8 := hid (K7.out.trans k8)
                  have c8 := x8.c3
                  clear x8 k8
                  cases r8 with
                  | bad e =>
                    obtain ⟨n1, n2⟩ := X8.out.told.ne rfl
                    simp only [whyOf] at c8
                    have HFIN := hid (show rr = .bad e from by rw [HAB2.out, ← H8.out]; rfl)
                    go_wp2_with fail
                    go_returns
                    exact ⟨⟨none, 0, 0, 0, 0, none, 0, 0, 0, 0, [], [], rfl, rfl, rfl, ⟨⟨fun h => absurd h (Nat.lt_irrefl _), ⟨fun h => absurd h (Nat.lt_irrefl _), fun i hi => absurd hi (Nat.not_lt_zero _)⟩, Nat.zero_le _, fun i hi => absurd hi (Nat.not_lt_zero _)⟩, fun h => absurd h (Nat.lt_irrefl _)⟩, ⟨⟨fun h => absurd h (Nat.lt_irrefl _), ⟨fun h => absurd h (Nat.lt_irrefl _), fun i hi => absurd hi (Nat.not_lt_zero _)⟩, Nat.zero_le _, fun i hi => absurd hi (Nat.not_lt_zero _)⟩, fun h => absurd h (Nat.lt_irrefl _)⟩, X8.out.as (by rw [HFIN.out]; rfl) (fun b p h => by rw [HFIN.out] at h; cases h) (by rw [HFIN.out]; intro g h; cases h; exact X8.out.told _ rfl), (fun a q h => by rw [HFIN.out] at h; cases h), fun f h => ⟨rfl, rfl⟩⟩, KZ.out.trans (KR.out.trans K8.out)⟩
                  | ok a8 q8 =>
                    simp only [whyOf] at c8
                    have HFIN := hid (show rr = .ok (f1, f2) q8 from by rw [HAB2.out, ← H8.out]; rfl)
                    have HLS0 := hid (fun nq => HINT.out _ (K8.out.drewN nq))
                    have HX9 := hid (fun nq => X8.out.grow (w' := w9.drewN nq) ⟨rfl, rfl, rfl, Nat.le_refl _, fun _ _ => rfl⟩)
                    have HK9 := hid (fun nq => K8.out.drewN nq)
                    go_upto_region 39 with fail
                    go_quiet (fail)
                    have HLS := hid (HLS0.out nq)
                    have X9 := hid (HX9.out nq)
                    have K9 := hid (HK9.out nq)
                    go_wp2_with fail
                    go_returns
                    exact ⟨⟨some ⟨gr, 0, none⟩, gr, 0, N, cap, some ⟨gr, N, none⟩, gr, N, M, cap - N, f1, f2, by first | rfl | simp, HE1.out, HE2.out, ⟨⟨fun _ => rfl, by rw [HE1.out]; exact HLS.out.1, by rw [HE1.out]; have := hMp.out; omega, HS1.out⟩, fun _ => HLS.out.2.2⟩, ⟨⟨fun _ => rfl, by rw [HE2.out]; exact HLS.out.2.1, by rw [HE2.out]; have := hMp.out; omega, HS2.out⟩, fun _ => HLS.out.2.2⟩, X9.out.as (by rw [HFIN.out]; rfl) (fun b p h => by rw [HFIN.out] at h; cases h; exact ⟨_, rfl⟩) (by rw [HFIN.out]; intro g h; cases h), (fun a q h => by rw [HFIN.out] at h; cases h; rfl), fun f h => (by rw [HFIN.out] at h; cases h)⟩, KZ.out.trans (KR.out.trans K9.out)⟩
end Inf
end Go.Proofs.Ytlfohihmkfphhaa

