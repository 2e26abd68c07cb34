/- WALKS over the program's distances of signs, and the document's. -/
import Derived.Test.YtlfohihmkfphhaaSymU
namespace Go.Proofs.Ytlfohihmkfphhaa
set_option linter.unusedVariables false
open Go.RowKit
open Go.Proofs.Sym
namespace Sg

theorem backBits_at (p : Nat) (hp : p < 30) : backBits (p : Int) = (wide 2 p : Int) := by
  unfold backBits; rw [if_neg (by omega), Int.toNat_natCast]
theorem backBits_none {c : Int} (h : c < 0 ∨ 29 < c) : backBits c = -1 := by unfold backBits; rw [if_pos h]
theorem backBits_bd (c : Int) : -1 ≤ backBits c ∧ backBits c ≤ 29 := by
  unfold backBits
  split
  · omega
  · unfold wide; omega

set_option maxRecDepth 100000 in
set_option maxHeartbeats 1000000 in
/-- How many bits a distance's code has. -/
theorem backBitsP (c : Int) (w : World) (hn0 : -9223372036854775808 ≤ c) (hn1 : c ≤ 9223372036854775807) :
    Calls Try.prog 87 #[.int .i64 c] w fun e w' => e = .returned (.int .i64 (backBits c)) ∧ Below w.heap.size w w' := by
  by_cases hr : 0 ≤ c ∧ c < 30
  · obtain ⟨p, hp, rfl⟩ : ∃ p : Nat, p < 30 ∧ c = (p : Int) := ⟨c.toNat, by omega, by omega⟩
    rw [backBits_at p hp]
    have hB : hasB 0 30 (p : Int) = true := by unfold hasB; simp; omega
    clear hr
    go_enter Try.func87, Try.ntmps87
    go_wp2_with fail
    refine (backsRow _).mono ?_
    rintro e w1 ⟨rfl, hb1⟩
    have H1 := hid hb1
    clear hb1
    go_wp2_with fail
    refine (rowHas _ _ _ _ _ _ (by omega) (by omega) (by omega) (by omega)).mono ?_
    rintro e w2 ⟨rfl, hb2⟩
    have H2 := hid (H1.out.trans (hb2.mono H1.out.size))
    clear hb2 H1
    rw [hB]
    go_wp2_with fail
    refine (backsRow _).mono ?_
    rintro e w3 ⟨rfl, hb3⟩
    have H3 := hid (H2.out.trans (hb3.mono H2.out.size))
    clear hb3 H2
    go_wp2_with fail
    refine (backsRow _).mono ?_
    rintro e w4 ⟨rfl, hb4⟩
    have H4 := hid (H3.out.trans (hb4.mono H3.out.size))
    clear hb4 H3
    have hf := field2 w4
    go_wp2_with fail
    refine (rowBits2 _ _ _ p _ (by omega)).mono ?_
    rintro e w5 ⟨rfl, hb5⟩
    have H5 := hid (H4.out.trans (hb5.mono H4.out.size))
    clear hb5 H4
    go_wp2_with fail
    go_ret
    exact ⟨rfl, H5.out⟩
  · rw [backBits_none (by omega)]
    have hB : hasB 0 30 c = false := by unfold hasB; simp; omega
    clear hr
    go_enter Try.func87, Try.ntmps87
    go_wp2_with fail
    refine (backsRow _).mono ?_
    rintro e w1 ⟨rfl, hb1⟩
    have H1 := hid hb1
    clear hb1
    go_wp2_with fail
    refine (rowHas _ _ _ _ _ _ (by omega) (by omega) (by omega) (by omega)).mono ?_
    rintro e w2 ⟨rfl, hb2⟩
    have H2 := hid (H1.out.trans (hb2.mono H1.out.size))
    clear hb2 H1
    rw [hB]
    go_wp2_with fail
    go_ret
    exact ⟨rfl, H2.out⟩

theorem backOf_yes {c m x n k : Int} {ok : Bool} (h : IsBackOf c m x ok) (hn : IsBack n c k m true) : x = n ∧ ok = true := by
  rcases h with ⟨k', h, rfl⟩ | ⟨h, rfl, rfl⟩
  · exact ⟨(back_inj h hn).1, rfl⟩
  · exact absurd hn (h _ _)
theorem backOf_no {c m x n c' k' m' : Int} {ok ok' : Bool} (h : IsBackOf c m x ok) (hn : IsBack n c' k' m' ok') (hone : ∀ y q, IsBack y c q m true → y = n) (hne : ¬ (ok' = true ∧ c' = c ∧ k' = backBits c ∧ m' = m)) : x = 0 ∧ ok = false := by
  rcases h with ⟨q, h, rfl⟩ | ⟨h, rfl, rfl⟩
  · have e := hone x q h
    subst e
    obtain ⟨a, b, d, e⟩ := back_fn hn h
    exact absurd ⟨e, a, b.trans (back_k h), d⟩ hne
  · exact ⟨rfl, rfl⟩
theorem backOf_at {c m x k : Int} {p : Nat} (hc : c = (p : Int)) (h : IsBack x c k m true) : x = (beg 1 2 p : Int) + m := by
  rcases h with ⟨p', hp', rfl, rfl, rfl, _⟩ | ⟨_, _, _, _, h⟩
  · obtain rfl : p' = p := by omega
    omega
  · cases h

set_option maxRecDepth 100000 in
set_option maxHeartbeats 1000000 in
theorem backOf (c m x : Int) (ok : Bool) (w : World) (h : IsBackOf c m x ok) (hc0 : -9223372036854775808 ≤ c) (hc1 : c ≤ 9223372036854775807) (hm0 : -9223372036854775808 ≤ m) (hm1 : m ≤ 9223372036854775807) :
    Calls Try.prog 88 #[.int .i64 c, .int .i64 m] w fun e w' => e = .returned (.tuple #[.int .i64 x, .bool ok]) ∧ Below w.heap.size w w' := by
  by_cases hr : 0 ≤ c ∧ c < 30
  · obtain ⟨p, hp, hcp⟩ : ∃ p : Nat, p < 30 ∧ c = (p : Int) := ⟨c.toNat, by omega, by omega⟩
    have hB : hasB 0 30 c = true := by unfold hasB; simp; omega
    obtain ⟨n, hnn⟩ : ∃ n : Int, n = wrap64 ((beg 1 2 p : Int) + m) := ⟨_, rfl⟩
    have hnb := wrap_bd ((beg 1 2 p : Int) + m)
    rw [← hnn] at hnb
    have hone : ∀ y q, IsBack y c q m true → y = n := by
      intro y q hy
      have e := backOf_at hcp hy
      have b := back_bd hy
      rw [hnn, ← e, wrap_self y (by omega) (by omega)]
    obtain ⟨c', k', m', ok', hn⟩ := back_ex n
    have HN := hid hn
    have HO := hid hone
    have HX := hid h
    have HNN := hid hnn
    have HCP := hid hcp
    obtain ⟨hnb0, hnb1⟩ := hnb
    have hbg := beg2_le p (by omega)
    clear hn hone h hr hnn hcp
    go_enter Try.func88, Try.ntmps88
    go_wp2_with fail
    refine (backsRow _).mono ?_
    rintro e w1 ⟨rfl, hb1⟩
    have H1 := hid hb1
    clear hb1
    go_wp2_with fail
    refine (rowHas _ _ _ _ _ _ (by omega) (by omega) (by omega) (by omega)).mono ?_
    rintro e w2 ⟨rfl, hb2⟩
    have H2 := hid (H1.out.trans (hb2.mono H1.out.size))
    clear hb2 H1
    rw [hB]
    go_wp2_with fail
    refine (backsRow _).mono ?_
    rintro e w3 ⟨rfl, hb3⟩
    have H3 := hid (H2.out.trans (hb3.mono H2.out.size))
    clear hb3 H2
    go_wp2_with fail
    rw [HCP.out]
    refine (rowFirst2 p _ (by omega)).mono ?_
    rintro e w4 ⟨rfl, hb4⟩
    have H4 := hid (H3.out.trans (hb4.mono H3.out.size))
    clear hb4 H3
    rw [← HCP.out]
    generalize beg 1 2 p = z at HNN hbg ⊢
    go_wp2_with fail
    rw [← HNN.out]
    refine (backBitsP c _ hc0 hc1).mono ?_
    rintro e w5 ⟨rfl, hb5⟩
    have H5 := hid (H4.out.trans (hb5.mono H4.out.size))
    clear hb5 H4
    by_cases he : ok' = true ∧ c' = c ∧ k' = backBits c ∧ m' = m
    · obtain ⟨e1, e2⟩ := backOf_yes HX.out (show IsBack n c (backBits c) m true from by obtain ⟨rfl, rfl, rfl, rfl⟩ := he; exact HN.out)
      have E1 := hid e1
      have E2 := hid e2
      clear e1 e2
      go_wp2_with fail
      refine (signedBack_yes _ c (backBits c) m c' k' m' ok' _ HN.out he (by omega) (by omega)).mono ?_
      rintro e w6 ⟨rfl, hb6⟩
      have H6 := hid (H5.out.trans (hb6.mono H5.out.size))
      clear hb6 H5 he
      go_wp2_with fail
      go_ret2
      exact ⟨ret_pair E1.out E2.out, H6.out⟩
    · obtain ⟨e1, e2⟩ := backOf_no HX.out HN.out HO.out he
      have E1 := hid e1
      have E2 := hid e2
      clear e1 e2
      go_wp2_with fail
      refine (signedBack_no _ c (backBits c) m c' k' m' ok' _ HN.out he (by omega) (by omega)).mono ?_
      rintro e w6 ⟨rfl, hb6⟩
      have H6 := hid (H5.out.trans (hb6.mono H5.out.size))
      clear hb6 H5 he
      go_wp2_with fail
      go_ret2
      exact ⟨ret_pair E1.out E2.out, H6.out⟩
  · have hB : hasB 0 30 c = false := by unfold hasB; simp; omega
    have hone : ∀ y q, IsBack y c q m true → y = 0 := by
      intro y q hy
      have b := back_bd hy
      omega
    obtain ⟨c', k', m', ok', hn⟩ := back_ex 0
    have HN := hid hn
    have HO := hid hone
    have HX := hid h
    clear hn hone h hr
    go_enter Try.func88, Try.ntmps88
    go_wp2_with fail
    refine (backsRow _).mono ?_
    rintro e w1 ⟨rfl, hb1⟩
    have H1 := hid hb1
    clear hb1
    go_wp2_with fail
    refine (rowHas _ _ _ _ _ _ (by omega) (by omega) (by omega) (by omega)).mono ?_
    rintro e w2 ⟨rfl, hb2⟩
    have H4 := hid (H1.out.trans (hb2.mono H1.out.size))
    clear hb2 H1
    rw [hB]
    go_wp2_with fail
    refine (backBitsP c _ hc0 hc1).mono ?_
    rintro e w5 ⟨rfl, hb5⟩
    have H5 := hid (H4.out.trans (hb5.mono H4.out.size))
    clear hb5 H4
    by_cases he : ok' = true ∧ c' = c ∧ k' = backBits c ∧ m' = m
    · obtain ⟨e1, e2⟩ := backOf_yes HX.out (show IsBack 0 c (backBits c) m true from by obtain ⟨rfl, rfl, rfl, rfl⟩ := he; exact HN.out)
      have E1 := hid e1
      have E2 := hid e2
      clear e1 e2
      go_wp2_with fail
      refine (signedBack_yes _ c (backBits c) m c' k' m' ok' _ HN.out he (by omega) (by omega)).mono ?_
      rintro e w6 ⟨rfl, hb6⟩
      have H6 := hid (H5.out.trans (hb6.mono H5.out.size))
      clear hb6 H5 he
      go_wp2_with fail
      go_ret2
      exact ⟨ret_pair E1.out E2.out, H6.out⟩
    · obtain ⟨e1, e2⟩ := backOf_no HX.out HN.out HO.out he
      have E1 := hid e1
      have E2 := hid e2
      clear e1 e2
      go_wp2_with fail
      refine (signedBack_no _ c (backBits c) m c' k' m' ok' _ HN.out he (by omega) (by omega)).mono ?_
      rintro e w6 ⟨rfl, hb6⟩
      have H6 := hid (H5.out.trans (hb6.mono H5.out.size))
      clear hb6 H5 he
      go_wp2_with fail
      go_ret2
      exact ⟨ret_pair E1.out E2.out, H6.out⟩
end Sg
end Go.Proofs.Ytlfohihmkfphhaa
