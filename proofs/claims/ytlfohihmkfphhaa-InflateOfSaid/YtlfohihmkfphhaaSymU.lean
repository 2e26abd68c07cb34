/- WALKS over the program's lengths and distances of signs. -/
import Derived.Test.YtlfohihmkfphhaaSymV
import Derived.Deep.DeepCutAuto
import Derived.Deep.CutBlock
namespace Go.Proofs.Ytlfohihmkfphhaa
set_option linter.unusedVariables false
open Go.RowKit
open Go.Proofs.Sym
namespace Sg

set_option maxRecDepth 100000 in
set_option maxHeartbeats 1000000 in
theorem signedLong_yes (n c k m c' k' m' : Int) (ok : Bool) (w : World) (h' : IsLong n c' k' m' ok) (he : ok = true ∧ c' = c ∧ k' = k ∧ m' = m) (hn0 : -9223372036854775808 ≤ n) (hn1 : n ≤ 9223372036854775807) :
    Calls Try.prog 99 #[.int .i64 n, .agg #[.int .i64 c, .int .i64 k, .int .i64 m], .func (.func 100) #[] #[]] w fun e w' => e = .returned (.tuple #[.int .i64 n, .bool true]) ∧ Below w.heap.size w w' := by
  have HE := hid he
  clear he
  go_enter Try.func99, Try.ntmps99
  go_wp2_with fail
  have HT := hid (one_new w #[.int .i64 c, .int .i64 k, .int .i64 m] 121)
  generalize w.alloc (.cells #[.int .i64 c, .int .i64 k, .int .i64 m] 121) = W0 at HT ⊢
  generalize w.heap.size = G at HT ⊢
  refine (longSign n c' k' m' ok _ h' hn0 hn1).mono ?_
  rintro e w1 ⟨rfl, hb1⟩
  have HT1 := hid (HT.out.step hb1)
  clear hb1 HT h'
  go_upto_region 2 with fail
  have HA := hid (HT1.out.alloc (.cells #[.int .i64 c', .int .i64 k', .int .i64 m'] 121))
  have HB := hid (HT1.out.next #[.int .i64 c', .int .i64 k', .int .i64 m'] 121)
  generalize w1.alloc (.cells #[.int .i64 c', .int .i64 k', .int .i64 m'] 121) = W2 at HA HB ⊢
  generalize w1.heap.size = H at HB ⊢
  have b0 : W2.cell? ⟨G, 0, none⟩ = some (.int .i64 c) := HA.out.c 0
  have b1 : W2.cell? ⟨G, 1, none⟩ = some (.int .i64 k) := HA.out.c 1
  have b2 : W2.cell? ⟨G, 2, none⟩ = some (.int .i64 m) := HA.out.c 2
  have d0 : W2.cell? ⟨H, 0, none⟩ = some (.int .i64 c') := HB.out.c 0
  have d1 : W2.cell? ⟨H, 1, none⟩ = some (.int .i64 k') := HB.out.c 1
  have d2 : W2.cell? ⟨H, 2, none⟩ = some (.int .i64 m') := HB.out.c 2
  obtain ⟨rfl, rfl, rfl, rfl⟩ := HE.out
  go_wp2_with fail
  go_ret2
  exact ⟨rfl, HA.out.below⟩
set_option maxRecDepth 100000 in
set_option maxHeartbeats 1000000 in
theorem signedLong_no (n c k m c' k' m' : Int) (ok : Bool) (w : World) (h' : IsLong n c' k' m' ok) (he : ¬ (ok = true ∧ c' = c ∧ k' = k ∧ m' = m)) (hn0 : -9223372036854775808 ≤ n) (hn1 : n ≤ 9223372036854775807) :
    Calls Try.prog 99 #[.int .i64 n, .agg #[.int .i64 c, .int .i64 k, .int .i64 m], .func (.func 100) #[] #[]] w fun e w' => e = .returned (.tuple #[.int .i64 0, .bool false]) ∧ Below w.heap.size w w' := by
  have HE := hid he
  clear he
  go_enter Try.func99, Try.ntmps99
  go_wp2_with fail
  have HT := hid (one_new w #[.int .i64 c, .int .i64 k, .int .i64 m] 121)
  generalize w.alloc (.cells #[.int .i64 c, .int .i64 k, .int .i64 m] 121) = W0 at HT ⊢
  generalize w.heap.size = G at HT ⊢
  refine (longSign n c' k' m' ok _ h' hn0 hn1).mono ?_
  rintro e w1 ⟨rfl, hb1⟩
  have HT1 := hid (HT.out.step hb1)
  clear hb1 HT h'
  go_upto_region 2 with fail
  have HA := hid (HT1.out.alloc (.cells #[.int .i64 c', .int .i64 k', .int .i64 m'] 121))
  have HB := hid (HT1.out.next #[.int .i64 c', .int .i64 k', .int .i64 m'] 121)
  generalize w1.alloc (.cells #[.int .i64 c', .int .i64 k', .int .i64 m'] 121) = W2 at HA HB ⊢
  generalize w1.heap.size = H at HB ⊢
  have b0 : W2.cell? ⟨G, 0, none⟩ = some (.int .i64 c) := HA.out.c 0
  have b1 : W2.cell? ⟨G, 1, none⟩ = some (.int .i64 k) := HA.out.c 1
  have b2 : W2.cell? ⟨G, 2, none⟩ = some (.int .i64 m) := HA.out.c 2
  have d0 : W2.cell? ⟨H, 0, none⟩ = some (.int .i64 c') := HB.out.c 0
  have d1 : W2.cell? ⟨H, 1, none⟩ = some (.int .i64 k') := HB.out.c 1
  have d2 : W2.cell? ⟨H, 2, none⟩ = some (.int .i64 m') := HB.out.c 2
  cases ok with
  | false =>
    go_wp2_with fail
    go_ret2
    exact ⟨rfl, HA.out.below⟩
  | true =>
    by_cases hc : c' = c
    · by_cases hk : k' = k
      · by_cases hm : m' = m
        · exact absurd ⟨rfl, hc, hk, hm⟩ HE.out
        · subst hc hk
          go_wp2_with fail
          go_ret2
          exact ⟨rfl, HA.out.below⟩
      · subst hc
        go_wp2_with fail
        go_ret2
        exact ⟨rfl, HA.out.below⟩
    · go_wp2_with fail
      go_ret2
      exact ⟨rfl, HA.out.below⟩
set_option maxRecDepth 100000 in
set_option maxHeartbeats 1000000 in
theorem signedBack_yes (n c k m c' k' m' : Int) (ok : Bool) (w : World) (h' : IsBack n c' k' m' ok) (he : ok = true ∧ c' = c ∧ k' = k ∧ m' = m) (hn0 : -9223372036854775808 ≤ n) (hn1 : n ≤ 9223372036854775807) :
    Calls Try.prog 99 #[.int .i64 n, .agg #[.int .i64 c, .int .i64 k, .int .i64 m], .func (.func 102) #[] #[]] w fun e w' => e = .returned (.tuple #[.int .i64 n, .bool true]) ∧ Below w.heap.size w w' := by
  have HE := hid he
  clear he
  go_enter Try.func99, Try.ntmps99
  go_wp2_with fail
  have HT := hid (one_new w #[.int .i64 c, .int .i64 k, .int .i64 m] 121)
  generalize w.alloc (.cells #[.int .i64 c, .int .i64 k, .int .i64 m] 121) = W0 at HT ⊢
  generalize w.heap.size = G at HT ⊢
  refine (backSign n c' k' m' ok _ h' hn0 hn1).mono ?_
  rintro e w1 ⟨rfl, hb1⟩
  have HT1 := hid (HT.out.step hb1)
  clear hb1 HT h'
  go_upto_region 2 with fail
  have HA := hid (HT1.out.alloc (.cells #[.int .i64 c', .int .i64 k', .int .i64 m'] 121))
  have HB := hid (HT1.out.next #[.int .i64 c', .int .i64 k', .int .i64 m'] 121)
  generalize w1.alloc (.cells #[.int .i64 c', .int .i64 k', .int .i64 m'] 121) = W2 at HA HB ⊢
  generalize w1.heap.size = H at HB ⊢
  have b0 : W2.cell? ⟨G, 0, none⟩ = some (.int .i64 c) := HA.out.c 0
  have b1 : W2.cell? ⟨G, 1, none⟩ = some (.int .i64 k) := HA.out.c 1
  have b2 : W2.cell? ⟨G, 2, none⟩ = some (.int .i64 m) := HA.out.c 2
  have d0 : W2.cell? ⟨H, 0, none⟩ = some (.int .i64 c') := HB.out.c 0
  have d1 : W2.cell? ⟨H, 1, none⟩ = some (.int .i64 k') := HB.out.c 1
  have d2 : W2.cell? ⟨H, 2, none⟩ = some (.int .i64 m') := HB.out.c 2
  obtain ⟨rfl, rfl, rfl, rfl⟩ := HE.out
  go_wp2_with fail
  go_ret2
  exact ⟨rfl, HA.out.below⟩
set_option maxRecDepth 100000 in
set_option maxHeartbeats 1000000 in
theorem signedBack_no (n c k m c' k' m' : Int) (ok : Bool) (w : World) (h' : IsBack n c' k' m' ok) (he : ¬ (ok = true ∧ c' = c ∧ k' = k ∧ m' = m)) (hn0 : -9223372036854775808 ≤ n) (hn1 : n ≤ 9223372036854775807) :
    Calls Try.prog 99 #[.int .i64 n, .agg #[.int .i64 c, .int .i64 k, .int .i64 m], .func (.func 102) #[] #[]] w fun e w' => e = .returned (.tuple #[.int .i64 0, .bool false]) ∧ Below w.heap.size w w' := by
  have HE := hid he
  clear he
  go_enter Try.func99, Try.ntmps99
  go_wp2_with fail
  have HT := hid (one_new w #[.int .i64 c, .int .i64 k, .int .i64 m] 121)
  generalize w.alloc (.cells #[.int .i64 c, .int .i64 k, .int .i64 m] 121) = W0 at HT ⊢
  generalize w.heap.size = G at HT ⊢
  refine (backSign n c' k' m' ok _ h' hn0 hn1).mono ?_
  rintro e w1 ⟨rfl, hb1⟩
  have HT1 := hid (HT.out.step hb1)
  clear hb1 HT h'
  go_upto_region 2 with fail
  have HA := hid (HT1.out.alloc (.cells #[.int .i64 c', .int .i64 k', .int .i64 m'] 121))
  have HB := hid (HT1.out.next #[.int .i64 c', .int .i64 k', .int .i64 m'] 121)
  generalize w1.alloc (.cells #[.int .i64 c', .int .i64 k', .int .i64 m'] 121) = W2 at HA HB ⊢
  generalize w1.heap.size = H at HB ⊢
  have b0 : W2.cell? ⟨G, 0, none⟩ = some (.int .i64 c) := HA.out.c 0
  have b1 : W2.cell? ⟨G, 1, none⟩ = some (.int .i64 k) := HA.out.c 1
  have b2 : W2.cell? ⟨G, 2, none⟩ = some (.int .i64 m) := HA.out.c 2
  have d0 : W2.cell? ⟨H, 0, none⟩ = some (.int .i64 c') := HB.out.c 0
  have d1 : W2.cell? ⟨H, 1, none⟩ = some (.int .i64 k') := HB.out.c 1
  have d2 : W2.cell? ⟨H, 2, none⟩ = some (.int .i64 m') := HB.out.c 2
  cases ok with
  | false =>
    go_wp2_with fail
    go_ret2
    exact ⟨rfl, HA.out.below⟩
  | true =>
    by_cases hc : c' = c
    · by_cases hk : k' = k
      · by_cases hm : m' = m
        · exact absurd ⟨rfl, hc, hk, hm⟩ HE.out
        · subst hc hk
          go_wp2_with fail
          go_ret2
          exact ⟨rfl, HA.out.below⟩
      · subst hc
        go_wp2_with fail
        go_ret2
        exact ⟨rfl, HA.out.below⟩
    · go_wp2_with fail
      go_ret2
      exact ⟨rfl, HA.out.below⟩

theorem longOf_yes {c m x n k : Int} {ok : Bool} (h : IsLongOf c m x ok) (hn : IsLong n c k m true) : x = n ∧ ok = true := by
  rcases h with ⟨k', h, rfl⟩ | ⟨h, rfl, rfl⟩
  · exact ⟨(long_inj h hn).1, rfl⟩
  · exact absurd hn (h _ _)
theorem longOf_no {c m x n k c' k' m' : Int} {ok ok' : Bool} (h : IsLongOf c m x ok) (hk : IsLongBits c k) (hn : IsLong n c' k' m' ok') (hone : ∀ y q, IsLong y c q m true → y = n) (hne : ¬ (ok' = true ∧ c' = c ∧ k' = k ∧ m' = m)) : x = 0 ∧ ok = false := by
  rcases h with ⟨q, h, rfl⟩ | ⟨h, rfl, rfl⟩
  · have e := hone x q h
    subst e
    obtain ⟨a, b, d, e⟩ := long_fn hn h
    rcases hk with ⟨y, z, hk⟩ | ⟨hk, _⟩
    · exact absurd ⟨e, a, b.trans (long_bits h hk), d⟩ hne
    · exact absurd h (hk _ _ _)
  · exact ⟨rfl, rfl⟩
theorem ret_pair {a b : Int} {o p : Bool} (h : b = a) (h2 : p = o) : Ending.returned (.tuple #[.int .i64 a, .bool o]) = .returned (.tuple #[.int .i64 b, .bool p]) := by rw [h, h2]
theorem longOf_at {c m x k : Int} {p : Nat} (hc : c = 257 + (p : Int)) (hp : p < 28) (h : IsLong x c k m true) : x = (beg 3 4 p : Int) + m := by
  rcases h with ⟨rfl, rfl, rfl, rfl, _⟩ | ⟨a, p', hp', rfl, rfl, rfl, _⟩ | ⟨_, _, _, _, h⟩
  · omega
  · obtain rfl : p' = p := by omega
    omega
  · cases h
theorem wrap_self (a : Int) (h0 : -9223372036854775808 ≤ a) (h1 : a ≤ 9223372036854775807) : wrap64 a = a := by
  unfold wrap64; omega
theorem wrap_bd (a : Int) : -9223372036854775808 ≤ wrap64 a ∧ wrap64 a ≤ 9223372036854775807 := by
  unfold wrap64; omega

set_option maxRecDepth 100000 in
set_option maxHeartbeats 1000000 in
/-- The program's tail: n is the only length that may have that sign. -/
theorem longOf (c m x : Int) (ok : Bool) (w : World) (h : IsLongOf c m x ok) (hc0 : -9223372036854775808 ≤ c) (hc1 : c ≤ 9223372036854775807) (hm0 : -9223372036854775808 ≤ m) (hm1 : m ≤ 9223372036854775807) :
    Calls Try.prog 86 #[.int .i64 c, .int .i64 m] w fun e w' => e = .returned (.tuple #[.int .i64 x, .bool ok]) ∧ Below w.heap.size w w' := by
  obtain ⟨k, hk⟩ := longBits_ex c
  by_cases h285 : c = 285
  · have hone : ∀ y q, IsLong y c q m true → y = 258 := by
      intro y q hy
      subst h285
      rcases hy with ⟨rfl, _⟩ | ⟨_, p, hp, e, _⟩ | ⟨_, _, _, _, h⟩
      · rfl
      · have := hp.1; omega
      · cases h
    obtain ⟨c', k', m', ok', hn⟩ := long_ex 258
    have HN := hid hn
    have HO := hid hone
    have HX := hid h
    have HC := hid h285
    clear hn hone h
    have hcb : (c == 285) = true := by simpa using h285
    clear h285
    go_enter Try.func86, Try.ntmps86
    go_wp2_with fail
    refine (longBits c k _ hk hc0 hc1).mono ?_
    rintro e w5 ⟨rfl, hb5⟩
    have H5 := hid hb5
    clear hb5
    by_cases he : ok' = true ∧ c' = c ∧ k' = k ∧ m' = m
    · obtain ⟨e1, e2⟩ := longOf_yes HX.out (show IsLong 258 c k m true from by obtain ⟨rfl, rfl, rfl, rfl⟩ := he; exact HN.out)
      have E1 := hid e1
      have E2 := hid e2
      clear e1 e2
      go_wp2_with fail
      refine (signedLong_yes 258 c k m c' k' m' ok' _ HN.out he (by omega) (by omega)).mono ?_
      rintro e w6 ⟨rfl, hb6⟩
      have H6 := hid (H5.out.trans (hb6.mono H5.out.size))
      clear hb6 H5 he
      go_wp2_with fail
      go_ret2
      exact ⟨ret_pair E1.out E2.out, H6.out⟩
    · obtain ⟨e1, e2⟩ := longOf_no HX.out hk HN.out HO.out he
      have E1 := hid e1
      have E2 := hid e2
      clear e1 e2
      go_wp2_with fail
      refine (signedLong_no 258 c k m c' k' m' ok' _ HN.out he (by omega) (by omega)).mono ?_
      rintro e w6 ⟨rfl, hb6⟩
      have H6 := hid (H5.out.trans (hb6.mono H5.out.size))
      clear hb6 H5 he
      go_wp2_with fail
      go_ret2
      exact ⟨ret_pair E1.out E2.out, H6.out⟩
  · have hcb : (c == 285) = false := by simpa using h285
    by_cases hr : 257 ≤ c ∧ c < 285
    · obtain ⟨p, hp, hcp⟩ : ∃ p : Nat, p < 28 ∧ c = 257 + (p : Int) := ⟨(c - 257).toNat, by omega, by omega⟩
      have hB : hasB 257 28 c = true := by unfold hasB; simp; omega
      obtain ⟨n, hnn⟩ : ∃ n : Int, n = wrap64 ((beg 3 4 p : Int) + m) := ⟨_, rfl⟩
      have hnb := wrap_bd ((beg 3 4 p : Int) + m)
      rw [← hnn] at hnb
      have hone : ∀ y q, IsLong y c q m true → y = n := by
        intro y q hy
        have e := longOf_at hcp hp hy
        have b := long_bd hy
        rw [hnn, ← e, wrap_self y (by omega) (by omega)]
      obtain ⟨c', k', m', ok', hn⟩ := long_ex n
      have HN := hid hn
      have HO := hid hone
      have HX := hid h
      have HNN := hid hnn
      have HCP := hid hcp
      obtain ⟨hnb0, hnb1⟩ := hnb
      have hbg := beg4_le p (by omega)
      clear hn hone h hr h285 hnn hcp
      go_enter Try.func86, Try.ntmps86
      go_wp2_with fail
      refine (longsRow _).mono ?_
      rintro e w1 ⟨rfl, hb1⟩
      have H1 := hid hb1
      clear hb1
      go_wp2_with fail
      refine (rowHas _ _ _ _ _ _ (by omega) (by omega) (by omega) (by omega)).mono ?_
      rintro e w2 ⟨rfl, hb2⟩
      have H2 := hid (H1.out.trans (hb2.mono H1.out.size))
      clear hb2 H1
      rw [hB]
      go_wp2_with fail
      refine (longsRow _).mono ?_
      rintro e w3 ⟨rfl, hb3⟩
      have H3 := hid (H2.out.trans (hb3.mono H2.out.size))
      clear hb3 H2
      go_wp2_with fail
      rw [HCP.out]
      refine (rowFirst4 p _ (by omega)).mono ?_
      rintro e w4 ⟨rfl, hb4⟩
      have H4 := hid (H3.out.trans (hb4.mono H3.out.size))
      clear hb4 H3
      rw [← HCP.out]
      generalize beg 3 4 p = z at HNN hbg ⊢
      go_wp2_with fail
      rw [← HNN.out]
      refine (longBits c k _ hk hc0 hc1).mono ?_
      rintro e w5 ⟨rfl, hb5⟩
      have H5 := hid (H4.out.trans (hb5.mono H4.out.size))
      clear hb5 H4
      by_cases he : ok' = true ∧ c' = c ∧ k' = k ∧ m' = m
      · obtain ⟨e1, e2⟩ := longOf_yes HX.out (show IsLong n c k m true from by obtain ⟨rfl, rfl, rfl, rfl⟩ := he; exact HN.out)
        have E1 := hid e1
        have E2 := hid e2
        clear e1 e2
        go_wp2_with fail
        refine (signedLong_yes _ c k m c' k' m' ok' _ HN.out he (by omega) (by omega)).mono ?_
        rintro e w6 ⟨rfl, hb6⟩
        have H6 := hid (H5.out.trans (hb6.mono H5.out.size))
        clear hb6 H5 he
        go_wp2_with fail
        go_ret2
        exact ⟨ret_pair E1.out E2.out, H6.out⟩
      · obtain ⟨e1, e2⟩ := longOf_no HX.out hk HN.out HO.out he
        have E1 := hid e1
        have E2 := hid e2
        clear e1 e2
        go_wp2_with fail
        refine (signedLong_no _ c k m c' k' m' ok' _ HN.out he (by omega) (by omega)).mono ?_
        rintro e w6 ⟨rfl, hb6⟩
        have H6 := hid (H5.out.trans (hb6.mono H5.out.size))
        clear hb6 H5 he
        go_wp2_with fail
        go_ret2
        exact ⟨ret_pair E1.out E2.out, H6.out⟩
    · have hB : hasB 257 28 c = false := by unfold hasB; simp; omega
      have hone : ∀ y q, IsLong y c q m true → y = 0 := by
        intro y q hy
        have b := long_bd hy
        omega
      obtain ⟨c', k', m', ok', hn⟩ := long_ex 0
      have HN := hid hn
      have HO := hid hone
      have HX := hid h
      clear hn hone h hr h285
      go_enter Try.func86, Try.ntmps86
      go_wp2_with fail
      refine (longsRow _).mono ?_
      rintro e w1 ⟨rfl, hb1⟩
      have H1 := hid hb1
      clear hb1
      go_wp2_with fail
      refine (rowHas _ _ _ _ _ _ (by omega) (by omega) (by omega) (by omega)).mono ?_
      rintro e w2 ⟨rfl, hb2⟩
      have H4 := hid (H1.out.trans (hb2.mono H1.out.size))
      clear hb2 H1
      rw [hB]
      go_wp2_with fail
      refine (longBits c k _ hk hc0 hc1).mono ?_
      rintro e w5 ⟨rfl, hb5⟩
      have H5 := hid (H4.out.trans (hb5.mono H4.out.size))
      clear hb5 H4
      by_cases he : ok' = true ∧ c' = c ∧ k' = k ∧ m' = m
      · obtain ⟨e1, e2⟩ := longOf_yes HX.out (show IsLong 0 c k m true from by obtain ⟨rfl, rfl, rfl, rfl⟩ := he; exact HN.out)
        have E1 := hid e1
        have E2 := hid e2
        clear e1 e2
        go_wp2_with fail
        refine (signedLong_yes _ c k m c' k' m' ok' _ HN.out he (by omega) (by omega)).mono ?_
        rintro e w6 ⟨rfl, hb6⟩
        have H6 := hid (H5.out.trans (hb6.mono H5.out.size))
        clear hb6 H5 he
        go_wp2_with fail
        go_ret2
        exact ⟨ret_pair E1.out E2.out, H6.out⟩
      · obtain ⟨e1, e2⟩ := longOf_no HX.out hk HN.out HO.out he
        have E1 := hid e1
        have E2 := hid e2
        clear e1 e2
        go_wp2_with fail
        refine (signedLong_no _ c k m c' k' m' ok' _ HN.out he (by omega) (by omega)).mono ?_
        rintro e w6 ⟨rfl, hb6⟩
        have H6 := hid (H5.out.trans (hb6.mono H5.out.size))
        clear hb6 H5 he
        go_wp2_with fail
        go_ret2
        exact ⟨ret_pair E1.out E2.out, H6.out⟩
end Sg
end Go.Proofs.Ytlfohihmkfphhaa
