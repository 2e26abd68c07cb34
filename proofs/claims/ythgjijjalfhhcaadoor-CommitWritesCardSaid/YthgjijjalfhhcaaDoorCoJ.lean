/- CommitWrites: marks that may not be; the document's own sector. -/
import Derived.Test.YthgjijjalfhhcaaDoorCoE
namespace Go.Proofs.YthgjijjalfhhcaaDoor
set_option linter.unusedVariables false
open Go.RowKit
open Go.Proofs.Num
attribute [local go_sem ↓] Go.wp_at_zero Go.wp_at_succ
namespace Com
open Fld

set_option maxRecDepth 100000 in
set_option maxHeartbeats 400000 in
theorem refPut (n : Nat) (wide : Int) (w : World) (h1 : n ≤ 18446744073709551615) (hw0 : -9223372036854775808 ≤ wide) (hw1 : wide ≤ 9223372036854775807) :
    Calls Tryd.prog 27 #[.int .u64 (n : Int), .int .i64 wide] w fun e w' => e = .returned (.string (putB n (wideN wide))) ∧ Below w.heap.size w w' := by
  go_enter Tryd.func27, Tryd.ntmps27
  go_wp2_with fail
  go_loopw [0, 5, 6] (fun x s i wr => ∃ k : Nat, k ≤ wideN wide ∧ i = .int .i64 k ∧ x = .int .u64 ((n / 256 ^ k : Nat) : Int) ∧ s = .string (putB n k) ∧ Below w.heap.size w wr) (fun _ _ i _ => 8 - (intOf i).toNat)
  case atStart => exact ⟨0, by omega, rfl, val_int (by simp), val_str rfl, Below.refl _ _⟩
  case round =>
    obtain ⟨k, hk, rfl, rfl, rfl, hB⟩ := hrel
    have HB := hid hB; clear hB
    have hx : n / 256 ^ k ≤ 18446744073709551615 := Nat.le_trans (Nat.div_le_self _ _) h1
    have HP := hid (putB_snoc n k)
    have hs := putB_size n k
    have HE := hid (show n / 256 ^ k / 256 = n / 256 ^ (k + 1) by rw [Nat.pow_succ, Nat.div_div_eq_div_mul])
    have hk8 : k ≤ 8 := by have := wide_le wide; omega
    generalize n / 256 ^ k = x at hx HP HE ⊢
    have HR := hid (show k = wideN wide → putB n k = putB n (wideN wide) from fun h => by rw [h])
    generalize putB n k = s at HP HR hs ⊢
    have hs8 : s.size ≤ 8 := by omega
    clear hs
    by_cases hlt : (k : Int) < wide
    · by_cases h8 : (k : Int) < 8
      · have hc := conv_one x wr
        go_wp2_with fail
        go_roundw
        case rel => exact ⟨k + 1, by unfold wideN at hk ⊢; omega, by go_num, val_int (by have := HE.out; omega), val_str HP.out, HB.out.alloc HB.out.size _⟩
        case measure => simp [intOf]; omega
      · go_wp2_with fail
        go_ret
        exact ⟨ret_str (HR.out (by unfold wideN at hk ⊢; omega)), HB.out⟩
    · go_wp2_with fail
      go_ret
      exact ⟨ret_str (HR.out (by unfold wideN at hk ⊢; omega)), HB.out⟩


/-- Which marks may not be. -/
def No (T L : Int) : Prop := T < 0 ∨ 1099511627776 < T ∨ L < 534 ∨ 4194304 < L
theorem no_or (T L : Int) : No T L ∨ ∃ t l : Nat, Ok t l ∧ T = t ∧ L = l := by
  by_cases h : No T L
  · exact .inl h
  · unfold No at h
    exact .inr ⟨T.toNat, L.toNat, ⟨by omega, by omega, by omega⟩, by omega, by omega⟩
theorem no_ok {t l : Nat} (h : Ok t l) : ¬ No t l := by
  have h1 := h.t1
  have h2 := h.l0
  have h3 := h.l1
  unfold No
  omega

set_option maxRecDepth 100000 in
theorem within_lo (n a b : Int) (w : World) (h0 : n < a) : Calls Tryd.prog 22 #[.int .i64 n, .int .i64 a, .int .i64 b] w fun e w' => e = .returned (.bool false) ∧ w = w' := by
  have h1 : ¬ a ≤ n := by omega
  go_enter Tryd.func22, Tryd.ntmps22
  go_wp2_with fail
  go_ret
  exact ⟨rfl, rfl⟩
set_option maxRecDepth 100000 in
theorem within_hi (n a b : Int) (w : World) (h0 : a ≤ n) (h2 : b < n) : Calls Tryd.prog 22 #[.int .i64 n, .int .i64 a, .int .i64 b] w fun e w' => e = .returned (.bool false) ∧ w = w' := by
  have h1 : ¬ n ≤ b := by omega
  go_enter Tryd.func22, Tryd.ntmps22
  go_wp2_with fail
  go_ret
  exact ⟨rfl, rfl⟩
theorem no_cases {T L : Int} (h : No T L) : T < 0 ∨ (0 ≤ T ∧ 1099511627776 < T) ∨ (0 ≤ T ∧ T ≤ 1099511627776 ∧ L < 534) ∨ (0 ≤ T ∧ T ≤ 1099511627776 ∧ 534 ≤ L ∧ 4194304 < L) := by
  unfold No at h
  omega
set_option maxRecDepth 100000 in
theorem right_no (T L : Int) (h : No T L) (w : World) : Calls Tryd.prog 6 #[markV T L] w fun e w' => e = .returned (.bool false) ∧ Below w.heap.size w w' := by
  go_enter Tryd.func6, Tryd.ntmps6
  rcases no_cases h with h1 | ⟨h1, h2⟩ | ⟨h1, h2, h3⟩ | ⟨h1, h2, h3, h4⟩
  · go_wp2_with fail
    refine (within_lo T 0 1099511627776 _ h1).mono ?_
    rintro e w1 ⟨rfl, rfl⟩
    go_wp2_with fail
    go_ret
    exact ⟨rfl, (Below.refl _ _).alloc (Nat.le_refl _) _⟩
  · go_wp2_with fail
    refine (within_hi T 0 1099511627776 _ h1 h2).mono ?_
    rintro e w1 ⟨rfl, rfl⟩
    go_wp2_with fail
    go_ret
    exact ⟨rfl, (Below.refl _ _).alloc (Nat.le_refl _) _⟩
  · go_wp2_with fail
    refine (within T 0 1099511627776 _ h1 h2).mono ?_
    rintro e w1 ⟨rfl, rfl⟩
    go_wp2_with fail
    refine (within_lo L 534 4194304 _ h3).mono ?_
    rintro e w1 ⟨rfl, rfl⟩
    go_wp2_with fail
    go_ret
    exact ⟨rfl, (Below.refl _ _).alloc (Nat.le_refl _) _⟩
  · go_wp2_with fail
    refine (within T 0 1099511627776 _ h1 h2).mono ?_
    rintro e w1 ⟨rfl, rfl⟩
    go_wp2_with fail
    refine (within_hi L 534 4194304 _ h3 h4).mono ?_
    rintro e w1 ⟨rfl, rfl⟩
    go_wp2_with fail
    go_ret
    exact ⟨rfl, (Below.refl _ _).alloc (Nat.le_refl _) _⟩
set_option maxRecDepth 100000 in
theorem refRight_no (T L : Int) (h : No T L) (w : World) : Calls Tryd.prog 7 #[markV T L] w fun e w' => e = .returned (.bool false) ∧ Below w.heap.size w w' := by
  go_enter Tryd.func7, Tryd.ntmps7
  rcases no_cases h with h1 | ⟨h1, h2⟩ | ⟨h1, h2, h3⟩ | ⟨h1, h2, h3, h4⟩
  · have g1 : ¬ 0 ≤ T := by omega
    go_wp2_with fail
    go_ret
    exact ⟨rfl, (Below.refl _ _).alloc (Nat.le_refl _) _⟩
  · have g1 : ¬ T ≤ 1099511627776 := by omega
    go_wp2_with fail
    go_ret
    exact ⟨rfl, (Below.refl _ _).alloc (Nat.le_refl _) _⟩
  · have g1 : ¬ 534 ≤ L := by omega
    go_wp2_with fail
    go_ret
    exact ⟨rfl, (Below.refl _ _).alloc (Nat.le_refl _) _⟩
  · have g1 : ¬ L ≤ 4194304 := by omega
    go_wp2_with fail
    go_ret
    exact ⟨rfl, (Below.refl _ _).alloc (Nat.le_refl _) _⟩
set_option maxRecDepth 100000 in
theorem refRight (t l : Nat) (h : Ok t l) (w : World) : Calls Tryd.prog 7 #[markV t l] w fun e w' => e = .returned (.bool true) ∧ Below w.heap.size w w' := by
  obtain ⟨t1, l0, l1⟩ := h
  have g0 : 0 ≤ (t : Int) := by omega
  have g1 : (t : Int) ≤ 1099511627776 := by omega
  have g2 : 534 ≤ (l : Int) := by omega
  have g3 : (l : Int) ≤ 4194304 := by omega
  clear t1 l0 l1
  go_enter Tryd.func7, Tryd.ntmps7
  go_wp2_with fail
  go_ret
  exact ⟨rfl, (Below.refl _ _).alloc (Nat.le_refl _) _⟩
set_option maxRecDepth 100000 in
theorem write_no (T L : Int) (h : No T L) (w : World) : Calls Tryd.prog 8 #[markV T L] w fun e w' => e = .returned (.string ⟨#[]⟩) ∧ Below w.heap.size w w' := by
  have HBEL := hid ((Below.refl _ w).alloc (Nat.le_refl _) (.cells #[.int .i64 T, .int .i64 L] 24))
  go_enter Tryd.func8, Tryd.ntmps8
  go_wp2_with fail
  refine (right_no T L h _).mono ?_
  rintro e w1 ⟨rfl, b1⟩
  have B1 := hid (HBEL.out.trans (b1.mono HBEL.out.size))
  clear b1
  go_wp2_with fail
  go_ret
  exact ⟨rfl, B1.out⟩
set_option maxRecDepth 100000 in
theorem refWrite_no (T L : Int) (h : No T L) (w : World) : Calls Tryd.prog 9 #[markV T L] w fun e w' => e = .returned (.string ⟨#[]⟩) ∧ Below w.heap.size w w' := by
  have HBEL := hid ((Below.refl _ w).alloc (Nat.le_refl _) (.cells #[.int .i64 T, .int .i64 L] 23))
  go_enter Tryd.func9, Tryd.ntmps9
  go_wp2_with fail
  refine (refRight_no T L h _).mono ?_
  rintro e w1 ⟨rfl, b1⟩
  have B1 := hid (HBEL.out.trans (b1.mono HBEL.out.size))
  clear b1
  go_wp2_with fail
  go_ret
  exact ⟨rfl, B1.out⟩

theorem body_text (t l : Nat) : magicB ++ putB t 8 ++ putB l 8 = ⟨(bodyL t l).toArray⟩ := by
  apply ByteArray.ext
  apply Array.ext'
  simp [putB, bodyL]
theorem seal_text (t l : Nat) : (⟨(bodyL t l).toArray⟩ : ByteArray) ++ putB (sumN t l) 4 = ⟨(sealL t l).toArray⟩ := by
  apply ByteArray.ext
  apply Array.ext'
  simp [putB, sealL]
set_option maxRecDepth 100000 in
set_option maxHeartbeats 1000000 in
theorem refWrite (t l : Nat) (hok : Ok t l) (w : World) : Calls Tryd.prog 9 #[markV t l] w fun e w' => e = .returned (.string (markB t l)) ∧ Below w.heap.size w w' := by
  have HR := hid (fun W => refRight t l hok W)
  have ht : t ≤ 1099511627776 := hok.t1
  have hl : l ≤ 1099511627776 := by have := hok.l1; omega
  have P1 := hid (fun W => refPut t 8 W (by omega) (by omega) (by omega))
  have P2 := hid (fun W => refPut l 8 W (by omega) (by omega) (by omega))
  have hS := (sum_eq t l).2
  have P3 := hid (fun W => refPut (sumN t l) 4 W (by omega) (by omega) (by omega))
  rw [show wideN 8 = 8 from rfl] at P1 P2
  rw [show wideN 4 = 4 from rfl] at P3
  have HO := hid (fun W => Sm.refOf ⟨(bodyL t l).toArray⟩ W (by show (bodyL t l).toArray.size ≤ maxLen; rw [List.size_toArray, bodyL_length]; unfold maxLen; omega))
  have HE : Sm.ofI (⟨(bodyL t l).toArray⟩ : ByteArray).data.toList = ((sumN t l : Nat) : Int) := (sum_eq t l).1
  rw [HE] at HO
  have T1 := hid (body_text t l)
  have T2 := hid (seal_text t l)
  have hz := sealL_length t l
  have HM := hid (show markB t l = (⟨(sealL t l).toArray⟩ : ByteArray) ++ zeros 484 by
    unfold markB padB
    rw [show (⟨(sealL t l).toArray⟩ : ByteArray).size = 28 from by show (sealL t l).toArray.size = 28; rw [List.size_toArray, hz]]
    rfl)
  have hsz : (⟨(sealL t l).toArray⟩ : ByteArray).size = 28 := by show (sealL t l).toArray.size = 28; rw [List.size_toArray, hz]
  have hbz : (⟨(bodyL t l).toArray⟩ : ByteArray).size = 24 := by show (bodyL t l).toArray.size = 24; rw [List.size_toArray, bodyL_length]
  have z1 := putB_size t 8
  have z2 := putB_size l 8
  have z3 := putB_size (sumN t l) 4
  have HROW := hid (heap_alloc_new w (.cells #[.int .i64 (t : Int), .int .i64 (l : Int)] 23))
  have HBEL := hid ((Below.refl _ w).alloc (Nat.le_refl _) (.cells #[.int .i64 (t : Int), .int .i64 (l : Int)] 23))
  clear hok HE hz
  generalize markB t l = out at HM ⊢
  generalize (⟨(bodyL t l).toArray⟩ : ByteArray) = B at *
  generalize (⟨(sealL t l).toArray⟩ : ByteArray) = C at *
  generalize sumN t l = S at *
  have e1 : IntKind.u64.wrap (t : Int) = (t : Int) := by rw [IntKind.wrap_u64]; omega
  have e2 : IntKind.u64.wrap (l : Int) = (l : Int) := by rw [IntKind.wrap_u64]; omega
  have e3 : IntKind.u64.wrap (S : Int) = (S : Int) := by rw [IntKind.wrap_u64]; omega
  generalize putB t 8 = x1 at *
  generalize putB l 8 = x2 at *
  generalize putB S 4 = x3 at *
  have hx12 : (magicB ++ x1).size = 16 := by rw [ByteArray.size_append, z1]; rfl
  have HZC := hid hsz
  clear hsz hS
  go_enter Tryd.func9, Tryd.ntmps9
  go_upto_region 1 with fail
  generalize w.alloc (.cells #[.int .i64 (t : Int), .int .i64 (l : Int)] 23) = W at HROW HBEL ⊢
  obtain ⟨a0, a1⟩ := two_cells HROW.out
  go_wp2_with fail
  refine (HR.out _).mono ?_
  rintro e w1 ⟨rfl, b1⟩
  have HROW1 := hid (row_step HROW.out b1)
  have HBEL1 := hid (HBEL.out.trans (b1.mono HBEL.out.size))
  clear b1 a0 a1 HROW HBEL
  go_upto_region 3 with fail
  have c0 := hid (two_cells HROW1.out)
  go_region_held3 (fun W' => W'.cell? ⟨w.heap.size, 0, none⟩ = some (.int .i64 (t : Int)) ∧ W'.cell? ⟨w.heap.size, 1, none⟩ = some (.int .i64 (l : Int)))
    (first | exact c0.out | exact two_cells K2.out.1 | exact two_cells K1.out.1 | go_keep)
    (first
      | (have tok := K1.out; clear tok; go_at_call 27; refine (P2.out _).mono ?_; rintro e w3 ⟨rfl, h⟩; have K2 := hid (⟨row_step K1.out.1 h, K1.out.2.trans (h.mono K1.out.2.size)⟩ : w3.heap[w.heap.size]? = some (.cells #[.int .i64 (t : Int), .int .i64 (l : Int)] 23 (0, 0)) ∧ Below w.heap.size w w3); clear h)
      | (go_at_call 27; refine (P1.out _).mono ?_; rintro e w2 ⟨rfl, h⟩; have K1 := hid (⟨row_step HROW1.out ((Below.refl _ w1).drew.trans h), HBEL1.out.trans (((Below.refl _ w1).drew.trans h).mono HBEL1.out.size)⟩ : w2.heap[w.heap.size]? = some (.cells #[.int .i64 (t : Int), .int .i64 (l : Int)] 23 (0, 0)) ∧ Below w.heap.size w w2); clear h))
  rw [show (⟨#[83, 87, 73, 78, 71, 76, 69, 49]⟩ : ByteArray) ++ x1 ++ x2 = B from T1.out]
  have HB3 := hid K2.out.2
  clear K1 K2 c0 hx12 z1 z2 P1 P2 T1
  go_wp2_with fail
  refine (HO.out _).mono ?_
  rintro e w4 ⟨rfl, rfl⟩
  go_wp2_with fail
  refine (P3.out _).mono ?_
  rintro e w5 ⟨rfl, b5⟩
  have HB5 := hid (HB3.out.trans (b5.mono HB3.out.size))
  clear b5
  go_upto_region 5 with fail
  rw [T2.out]
  clear T2 P3 HO hbz z3 e1 e2 e3 ht hl
  go_wp2_with fail
  go_loop [3] (fun v => ∃ j : Nat, v = .string (C ++ zeros j) ∧ j ≤ 484) (fun v => 512 - (match v with | .string x => x.size | _ => 0))
  case atStart => exact ⟨0, by rw [zeros_none], by omega⟩
  case round =>
    obtain ⟨j, rfl, hj⟩ := hrel
    have hz : (C ++ zeros j).size = 28 + j := by rw [ByteArray.size_append, zeros_size, HZC.out]
    have HMO := hid (zeros_more C j)
    obtain ⟨x, hx⟩ : ∃ x, C ++ zeros j = x := ⟨_, rfl⟩
    have HX0 := hid hx.symm
    rw [hx] at hz HMO ⊢
    clear hx
    by_cases hlt : j < 484
    · have h2 : (x.size : Int) < 512 := by omega
      have HZ := hid hz
      clear hz
      go_wp2_with fail
      go_round
      case rel => exact ⟨j + 1, val_str HMO.out, by omega⟩
      case measure =>
        have h3 : (x ++ (⟨#[0]⟩ : ByteArray)).size = x.size + 1 := by rw [ByteArray.size_append]; rfl
        have h4 := HZ.out
        simp [h3]; omega
    · have h2 : ¬ (x.size : Int) < 512 := by omega
      have HX := hid (show x = out by
        have h5 : j = 484 := by omega
        have h6 := HX0.out
        rw [h5] at h6
        rw [h6, HM.out])
      clear hz
      go_wp2_with fail
      go_ret
      exact ⟨ret_str HX.out, HB5.out⟩
end Com
end Go.Proofs.YthgjijjalfhhcaaDoor
