/- INFLATE: symbols, and room, of the program. -/
import Derived.Test.YtlfohihmkfphhaaJnfT
import Derived.BigQuiet
namespace Go.Proofs.Ytlfohihmkfphhaa
set_option linter.unusedVariables false
open Go.RowKit
open Go.Proofs.Huf
attribute [local go_sem ↓] Go.wp_at_zero Go.wp_at_succ
namespace Inf
open Huff
/-- Codes in memory. -/
def DcT (W : World) (D : Nat) (g : Nat → Nat) (N : Nat) : Prop := ∃ v, W.heap[D]? = some (.cells ((cntV g N).push v) 115 (0, 0)) ∧
  ((v = .slice none 0 0 ∧ syT g N 15 = []) ∨ ∃ E cap cur, v = .slice (some ⟨E, 0, none⟩) (syT g N 15).length cap ∧ W.heap[E]? = some (.cells cur 3 (0, 0)) ∧ ∀ i, i < (syT g N 15).length → cur[i]? = some (.int .i64 (((syT g N 15).getD i 0 : Nat) : Int)))
theorem dcT_of {w W : World} {D b0 : Nat} {g : Nat → Nat} {N : Nat} {v : Value} (h : Dc w W D b0 (cntV g N) v (syT g N 15)) : DcT W D g N := by
  refine ⟨v, h.blk, ?_⟩
  rcases h.own.2 with ⟨rfl, hn⟩ | ⟨E, cap, cur, rfl, hb, hg, _, _, _, htk⟩
  · exact .inl ⟨rfl, List.eq_nil_of_length_eq_zero hn⟩
  · refine .inr ⟨E, cap, cur, rfl, hg, fun i hi => ?_⟩
    have h1 : (cur.toList.take ((syT g N 15).length * 1))[i]? = (symV (syT g N 15))[i]? := by rw [htk]
    rw [Nat.mul_one, List.getElem?_take_of_lt hi] at h1
    rw [← Array.getElem?_toList, h1]
    simp [symV, hi]
theorem DcT.kp {W W' : World} {D : Nat} {g : Nat → Nat} {N B : Nat} (h : DcT W D g N) (k : Kp TP B W W') : DcT W' D g N := by
  obtain ⟨v, h1, h2⟩ := h
  refine ⟨v, k.keep _ _ _ _ h1 (by decide), ?_⟩
  rcases h2 with h2 | ⟨E, cap, cur, e, hg, hc⟩
  · exact .inl h2
  · exact .inr ⟨E, cap, cur, e, k.keep _ _ _ _ hg (by decide), hc⟩
theorem DcT.toF {W : World} {D G : Nat} {g : Nat → Nat} {N : Nat} {s : ByteArray} {p : Nat} (h : DcT W D g N) (hr : Rd W G s p) : DcF W D G g N := by
  have hne : ∀ (k : Nat) (cs : Array Value) (t : TypeId) (r : Nat × Nat), W.heap[k]? = some (.cells cs t r) → t ≠ 71 → k ≠ G := by
    intro k cs t r hk ht e
    subst e
    have : W.heap[k]? = _ := hr
    rw [this] at hk
    cases hk
    exact ht rfl
  obtain ⟨v, h1, h2⟩ := h
  refine ⟨(Array.getElem?_eq_some_iff.1 h1).1, hne _ _ _ _ h1 (by decide), fun n hn => ?_, ?_⟩
  · rw [cell_of_row _ _ _ _ _ _ h1, push_at _ _ _ (cntV_size _ _) hn]
    exact cntV_at _ _ _ hn
  · have hc : W.cell? ⟨D, 16, none⟩ = some v := by
      rw [cell_of_row _ _ _ _ _ _ h1]
      exact push_end _ _ (cntV_size _ _)
    rcases h2 with ⟨rfl, hs⟩ | ⟨E, cap, cur, rfl, hg, hcur⟩
    · refine ⟨none, 0, by rw [hc, hs]; rfl, fun i hi => ?_⟩
      rw [hs] at hi
      exact absurd hi (by simp)
    · exact ⟨_, cap, hc, fun i hi => ⟨E, rfl, hne _ _ _ _ hg (by decide), (Array.getElem?_eq_some_iff.1 hg).1, by rw [cell_of_row _ _ _ _ _ _ hg]; exact hcur i hi⟩⟩
/-- A decoder: codes in memory, or nil. -/
def DcV (W : World) (c : Cds) (dv : Value) : Prop := (c.any = true ∧ c.n ≤ 300 ∧ ∃ D, dv = .pointer (some ⟨D, 0, none⟩) ∧ DcT W D c.g c.n) ∨ (c.any = false ∧ dv = .pointer none)
theorem DcV.kp {W W' : World} {B : Nat} {c : Cds} {dv : Value} (h : DcV W c dv) (k : Kp TP B W W') : DcV W' c dv := by
  rcases h with ⟨h1, h2, D, h3, h4⟩ | h
  · exact .inl ⟨h1, h2, D, h3, h4.kp k⟩
  · exact .inr h
set_option maxRecDepth 100000 in
set_option maxHeartbeats 1000000 in
theorem symbol (S G B : Nat) (s : ByteArray) (p : Nat) (v : Value) (out : List UInt8) (most : Nat) (c : Cds) (dv : Value) (w : World) (h : St w S G B s p v out most) (hd : DcV w c dv) (hs : s.size ≤ 1048576) (hp : p ≤ 8 * s.size) :
    Calls Try.prog 83 #[.pointer (some ⟨S, 0, none⟩), dv] w fun e w' => Did (c.read (numS s) (8 * s.size) p) (numK S G B s v out most) e w' ∧ Kp TP B w w' := by
  have HT := hid h
  have c0 := h.c0
  rcases hd with ⟨h1, h2, D, rfl, h4⟩ | ⟨h1, rfl⟩
  · unfold Cds.read
    rw [if_pos h1]
    have HN := hid (nextP D G s p c.g c.n w (h4.toF h.rd) h.rd hs hp h2)
    unfold sym
    obtain ⟨o, ho⟩ : ∃ o, o = decF c.g c.n (numS s) (8 * s.size) 15 p 0 0 := ⟨_, rfl⟩
    have hbo := dec_bad c.g c.n (numS s) (8 * s.size) 15 p 0 0
    rw [← ho] at HN hbo ⊢
    clear h h4 ho
    go_enter Try.func83, Try.ntmps83
    go_wp2_with fail
    refine HN.out.mono ?_
    rintro e w1 ⟨rfl, r1, o1⟩
    have K1 := hid (HT.out.kp o1 ⟨_, r1, rfl, by simp [Value.oneCell']⟩)
    obtain ⟨x, ok, q, bad⟩ := o
    cases bad with
    | true =>
      obtain rfl : ok = false := hbo rfl
      have c0' : w1.cell? ⟨S, 0, none⟩ = some (.pointer (some ⟨G, 0, none⟩)) := by
        rw [cell_of_row w1 S 0 _ 65 (0, 0) ((o1.block S HT.out.lt HT.out.ne).trans HT.out.st)]; rfl
      have HB := hid (show Bk w1 G s q from r1)
      clear r1 o1 c0 hbo
      go_wp2_with fail
      refine (rfine0 G s _ _ HB.out).mono ?_
      rintro e w2 ⟨rfl, rfl⟩
      go_wp2_with fail
      exact ⟨rfl, rfl, K1.out⟩
    | false =>
      have H1 := hid (HT.out.left (q := q) ⟨r1, o1⟩)
      clear r1 o1 c0 hbo
      have c0 := H1.out.c0
      cases ok with
      | true =>
        go_wp2_with fail
        refine (rfine G s _ _ H1.out.rd).mono ?_
        rintro e w2 ⟨rfl, rfl⟩
        go_wp2_with fail
        go_ret
        exact ⟨⟨_, rfl, rfl, H1.out⟩, K1.out⟩
      | false =>
        go_wp2_with fail
        refine (rfine G s _ _ H1.out.rd).mono ?_
        rintro e w2 ⟨rfl, rfl⟩
        go_wp2_with fail
        exact ⟨rfl, rfl, K1.out⟩
  · unfold Cds.read
    rw [if_neg (by simp [h1])]
    go_enter Try.func83, Try.ntmps83
    go_wp2_with fail
    refine (nextNil _ _).mono ?_
    rintro e w1 ⟨rfl, rfl⟩
    go_wp2_with fail
    refine (rfine G s _ _ HT.out.rd).mono ?_
    rintro e w2 ⟨rfl, rfl⟩
    go_wp2_with fail
    exact ⟨rfl, rfl, Kp.refl _ _ _⟩
/-- Room for so many bytes more. -/
def roomR (out : List UInt8) (n most : Nat) (p : Nat) : Res Unit := if out.length + n ≤ most then .ok () p else .bad 4
set_option maxRecDepth 100000 in
set_option maxHeartbeats 1000000 in
theorem room (S G B : Nat) (s : ByteArray) (p n : Nat) (v : Value) (out : List UInt8) (most : Nat) (w : World) (h : St w S G B s p v out most) (hn : n ≤ 100000) (hm : most ≤ 100000) (ho : out.length ≤ 100000) :
    Calls Try.prog 81 #[.pointer (some ⟨S, 0, none⟩), .int .i64 (n : Int)] w fun e w' => Did (roomR out n most p) (fun _ q x w' => x = .tuple #[] ∧ St w' S G B s q v out most) e w' ∧ Kp TP B w w' := by
  have HT := hid h
  have c1 := h.c1
  have c2 := h.c2
  obtain ⟨A, cap, g, rfl, _⟩ := OwnB.form h.own
  have e1 : IntKind.i64.wrap ((out.length : Int) + (n : Int)) = (out.length : Int) + (n : Int) := IntWalk.i64_in _ (by omega)
  unfold roomR
  have HD := hid (fun nq => HT.out.grow (w' := w.drewN nq) ⟨rfl, rfl, rfl, Nat.le_refl _, fun _ _ => rfl⟩)
  have HK := hid (fun nq => (Kp.refl TP B w).drewN nq)
  clear h
  by_cases hl : out.length + n ≤ most
  · rw [if_pos hl]
    have g1 : decide ((most : Int) < (out.length : Int) + (n : Int)) = false := by rw [decide_eq_false_iff_not]; omega
    have g2 : ¬ (most : Int) < (out.length : Int) + (n : Int) := by omega
    go_enter Try.func81, Try.ntmps81
    go_wp2_with fail
    go_quiet (fail)
    go_wp2_with fail
    go_returns
    exact ⟨⟨_, rfl, rfl, HD.out _⟩, HK.out _⟩
  · rw [if_neg hl]
    have g1 : decide ((most : Int) < (out.length : Int) + (n : Int)) = true := by rw [decide_eq_true_iff]; omega
    have g2 : (most : Int) < (out.length : Int) + (n : Int) := by omega
    go_enter Try.func81, Try.ntmps81
    go_wp2_with fail
    go_quiet (fail)
    go_wp2_with fail
    exact ⟨rfl, rfl, HK.out _⟩
set_option maxRecDepth 100000 in
set_option maxHeartbeats 1000000 in
/-- The number of a code and of the bits behind it. -/
theorem signedL (S G B : Nat) (s : ByteArray) (p c : Nat) (b : Int) (f : Nat → Int × Bool) (v : Value) (out : List UInt8) (most : Nat) (w : World) (h : St w S G B s p v out most) (hs : s.size ≤ 1048576) (hp : p ≤ 8 * s.size)
    (hfb : ∀ W, Calls Try.prog 85 #[.int .i64 (c : Int)] W fun e w' => e = .returned (.int .i64 b) ∧ Below W.heap.size W w')
    (hfo : ∀ (m : Nat) W, m < 65536 → Calls Try.prog 86 #[.int .i64 (c : Int), .int .i64 (m : Int)] W fun e w' => e = .returned (.tuple #[.int .i64 (f m).1, .bool (f m).2]) ∧ Below W.heap.size W w')
    (hb : b ≤ 16) (hf : ∀ m : Nat, (f m).2 = true → 0 ≤ (f m).1) :
    Calls Try.prog 84 #[.pointer (some ⟨S, 0, none⟩), .int .i64 (c : Int), .func (.func 85) #[] #[], .func (.func 86) #[] #[]] w fun e w' => Did (signedP b f (numS s) (8 * s.size) p) (numK S G B s v out most) e w' ∧ Kp TP B w w' := by
  have HT := hid h
  have HFB := hid hfb
  have HFO := hid hfo
  have HF := hid hf
  have HSZ := hid h.size
  clear h hfb hfo hf
  unfold signedP
  by_cases h0 : b < 0
  · rw [if_pos h0]
    go_enter Try.func84, Try.ntmps84
    go_wp2_with fail
    refine (HFB.out _).mono ?_
    rintro e w1 ⟨rfl, b1⟩
    have K1 := hid (Kp.of_below (T := TP) b1 HSZ.out)
    clear b1
    go_wp2_with fail
    exact ⟨rfl, rfl, K1.out⟩
  · rw [if_neg h0]
    obtain ⟨n, rfl⟩ := Int.eq_ofNat_of_zero_le (show 0 ≤ b by omega)
    rw [Int.toNat_natCast]
    have HNM := hid (fun W (hw : St W S G B s p v out most) => num S G B s p n v out most W hw hs (by omega) hp)
    have h0' : ¬ (n : Int) < 0 := by omega
    cases ht : take n (numS s) (8 * s.size) p with
    | bad e0 =>
      rw [ht] at HNM
      rw [bind_bad ht]
      clear ht
      go_enter Try.func84, Try.ntmps84
      go_wp2_with fail
      refine (HFB.out _).mono ?_
      rintro e w1 ⟨rfl, b1⟩
      have H1 := hid (HT.out.grow b1)
      have K1 := hid (Kp.of_below (T := TP) b1 HSZ.out)
      clear b1
      go_wp2_with fail
      refine (HNM.out _ H1.out).mono ?_
      rintro e w2 ⟨hd, k2⟩
      obtain rfl := hd.bad
      clear hd
      have K2 := hid (K1.out.trans k2)
      clear k2
      go_wp2_with fail
      exact ⟨rfl, rfl, K2.out⟩
    | ok m q =>
      rw [ht] at HNM
      rw [bind_ok ht]
      have hm : m < 65536 := by
        unfold take at ht
        split at ht
        · cases ht
          have h1 : numS s / 2 ^ p % 2 ^ n < 2 ^ n := Nat.mod_lt _ (Nat.pow_pos (by omega))
          have h2 := Nat.pow_le_pow_right (show 0 < 2 by decide) (show n ≤ 16 by omega)
          omega
        · cases ht
      have HFM := hid (fun W => HFO.out m W hm)
      have HFR := hid (HF.out m)
      generalize f m = r at HFM HFR ⊢
      obtain ⟨x, ok⟩ := r
      clear ht hm
      cases ok with
      | true =>
        have hx : 0 ≤ x := HFR.out rfl
        obtain ⟨X, rfl⟩ := Int.eq_ofNat_of_zero_le hx
        rw [if_pos rfl]
        go_enter Try.func84, Try.ntmps84
        go_wp2_with fail
        refine (HFB.out _).mono ?_
        rintro e w1 ⟨rfl, b1⟩
        have H1 := hid (HT.out.grow b1)
        have K1 := hid (Kp.of_below (T := TP) b1 HSZ.out)
        clear b1
        go_wp2_with fail
        refine (HNM.out _ H1.out).mono ?_
        rintro e w2 ⟨⟨_, rfl, rfl, h2⟩, k2⟩
        have H2 := hid h2
        have K2 := hid (K1.out.trans k2)
        clear h2 k2
        go_wp2_with fail
        refine (HFM.out _).mono ?_
        rintro e w3 ⟨rfl, b3⟩
        have H3 := hid (H2.out.grow b3)
        have K3 := hid (K2.out.trans (Kp.of_below b3 H2.out.size))
        clear b3
        go_wp2_with fail
        go_ret
        exact ⟨⟨_, rfl, rfl, H3.out⟩, K3.out⟩
      | false =>
        rw [if_neg (by simp)]
        go_enter Try.func84, Try.ntmps84
        go_wp2_with fail
        refine (HFB.out _).mono ?_
        rintro e w1 ⟨rfl, b1⟩
        have H1 := hid (HT.out.grow b1)
        have K1 := hid (Kp.of_below (T := TP) b1 HSZ.out)
        clear b1
        go_wp2_with fail
        refine (HNM.out _ H1.out).mono ?_
        rintro e w2 ⟨⟨_, rfl, rfl, h2⟩, k2⟩
        have H2 := hid h2
        have K2 := hid (K1.out.trans k2)
        clear h2 k2
        go_wp2_with fail
        refine (HFM.out _).mono ?_
        rintro e w3 ⟨rfl, b3⟩
        have K3 := hid (K2.out.trans (Kp.of_below b3 H2.out.size))
        clear b3
        go_wp2_with fail
        exact ⟨rfl, rfl, K3.out⟩
set_option maxRecDepth 100000 in
set_option maxHeartbeats 1000000 in
/-- The number of a code and of the bits behind it. -/
theorem signedB (S G B : Nat) (s : ByteArray) (p c : Nat) (b : Int) (f : Nat → Int × Bool) (v : Value) (out : List UInt8) (most : Nat) (w : World) (h : St w S G B s p v out most) (hs : s.size ≤ 1048576) (hp : p ≤ 8 * s.size)
    (hfb : ∀ W, Calls Try.prog 87 #[.int .i64 (c : Int)] W fun e w' => e = .returned (.int .i64 b) ∧ Below W.heap.size W w')
    (hfo : ∀ (m : Nat) W, m < 65536 → Calls Try.prog 88 #[.int .i64 (c : Int), .int .i64 (m : Int)] W fun e w' => e = .returned (.tuple #[.int .i64 (f m).1, .bool (f m).2]) ∧ Below W.heap.size W w')
    (hb : b ≤ 16) (hf : ∀ m : Nat, (f m).2 = true → 0 ≤ (f m).1) :
    Calls Try.prog 84 #[.pointer (some ⟨S, 0, none⟩), .int .i64 (c : Int), .func (.func 87) #[] #[], .func (.func 88) #[] #[]] w fun e w' => Did (signedP b f (numS s) (8 * s.size) p) (numK S G B s v out most) e w' ∧ Kp TP B w w' := by
  have HT := hid h
  have HFB := hid hfb
  have HFO := hid hfo
  have HF := hid hf
  have HSZ := hid h.size
  clear h hfb hfo hf
  unfold signedP
  by_cases h0 : b < 0
  · rw [if_pos h0]
    go_enter Try.func84, Try.ntmps84
    go_wp2_with fail
    refine (HFB.out _).mono ?_
    rintro e w1 ⟨rfl, b1⟩
    have K1 := hid (Kp.of_below (T := TP) b1 HSZ.out)
    clear b1
    go_wp2_with fail
    exact ⟨rfl, rfl, K1.out⟩
  · rw [if_neg h0]
    obtain ⟨n, rfl⟩ := Int.eq_ofNat_of_zero_le (show 0 ≤ b by omega)
    rw [Int.toNat_natCast]
    have HNM := hid (fun W (hw : St W S G B s p v out most) => num S G B s p n v out most W hw hs (by omega) hp)
    have h0' : ¬ (n : Int) < 0 := by omega
    cases ht : take n (numS s) (8 * s.size) p with
    | bad e0 =>
      rw [ht] at HNM
      rw [bind_bad ht]
      clear ht
      go_enter Try.func84, Try.ntmps84
      go_wp2_with fail
      refine (HFB.out _).mono ?_
      rintro e w1 ⟨rfl, b1⟩
      have H1 := hid (HT.out.grow b1)
      have K1 := hid (Kp.of_below (T := TP) b1 HSZ.out)
      clear b1
      go_wp2_with fail
      refine (HNM.out _ H1.out).mono ?_
      rintro e w2 ⟨hd, k2⟩
      obtain rfl := hd.bad
      clear hd
      have K2 := hid (K1.out.trans k2)
      clear k2
      go_wp2_with fail
      exact ⟨rfl, rfl, K2.out⟩
    | ok m q =>
      rw [ht] at HNM
      rw [bind_ok ht]
      have hm : m < 65536 := by
        unfold take at ht
        split at ht
        · cases ht
          have h1 : numS s / 2 ^ p % 2 ^ n < 2 ^ n := Nat.mod_lt _ (Nat.pow_pos (by omega))
          have h2 := Nat.pow_le_pow_right (show 0 < 2 by decide) (show n ≤ 16 by omega)
          omega
        · cases ht
      have HFM := hid (fun W => HFO.out m W hm)
      have HFR := hid (HF.out m)
      generalize f m = r at HFM HFR ⊢
      obtain ⟨x, ok⟩ := r
      clear ht hm
      cases ok with
      | true =>
        have hx : 0 ≤ x := HFR.out rfl
        obtain ⟨X, rfl⟩ := Int.eq_ofNat_of_zero_le hx
        rw [if_pos rfl]
        go_enter Try.func84, Try.ntmps84
        go_wp2_with fail
        refine (HFB.out _).mono ?_
        rintro e w1 ⟨rfl, b1⟩
        have H1 := hid (HT.out.grow b1)
        have K1 := hid (Kp.of_below (T := TP) b1 HSZ.out)
        clear b1
        go_wp2_with fail
        refine (HNM.out _ H1.out).mono ?_
        rintro e w2 ⟨⟨_, rfl, rfl, h2⟩, k2⟩
        have H2 := hid h2
        have K2 := hid (K1.out.trans k2)
        clear h2 k2
        go_wp2_with fail
        refine (HFM.out _).mono ?_
        rintro e w3 ⟨rfl, b3⟩
        have H3 := hid (H2.out.grow b3)
        have K3 := hid (K2.out.trans (Kp.of_below b3 H2.out.size))
        clear b3
        go_wp2_with fail
        go_ret
        exact ⟨⟨_, rfl, rfl, H3.out⟩, K3.out⟩
      | false =>
        rw [if_neg (by simp)]
        go_enter Try.func84, Try.ntmps84
        go_wp2_with fail
        refine (HFB.out _).mono ?_
        rintro e w1 ⟨rfl, b1⟩
        have H1 := hid (HT.out.grow b1)
        have K1 := hid (Kp.of_below (T := TP) b1 HSZ.out)
        clear b1
        go_wp2_with fail
        refine (HNM.out _ H1.out).mono ?_
        rintro e w2 ⟨⟨_, rfl, rfl, h2⟩, k2⟩
        have H2 := hid h2
        have K2 := hid (K1.out.trans k2)
        clear h2 k2
        go_wp2_with fail
        refine (HFM.out _).mono ?_
        rintro e w3 ⟨rfl, b3⟩
        have K3 := hid (K2.out.trans (Kp.of_below b3 H2.out.size))
        clear b3
        go_wp2_with fail
        exact ⟨rfl, rfl, K3.out⟩
end Inf
end Go.Proofs.Ytlfohihmkfphhaa
