/- WALKS over the program's writer of bits: up to a byte's end, texts, its bytes. -/
import Derived.Test.YtlgnapapofgdfaaBitB
namespace Go.Proofs.Ytlgnapapofgdfaa
set_option linter.unusedVariables false
open Go.RowKit
open Go.Proofs.Bit
attribute [local go_sem ↓] Go.wp_at_zero Go.wp_at_succ

theorem manyN_of (k : Nat) (h : k ≤ 32) : manyN (k : Int) = k := by unfold manyN; omega

set_option maxRecDepth 100000 in
theorem walign (b0 G N n : Nat) (w : World) (hW : Wt w b0 G N n) (hb0 : b0 ≤ w.heap.size) (hn : n ≤ 1099511627776) :
    Calls Try.prog 7 #[.pointer (some ⟨G, 0, none⟩)] w fun e w' => e = .returned (.tuple #[]) ∧ Wt w' b0 G N (up8 n) ∧ Keep G 5 w w' := by
  have HW := hid hW
  obtain ⟨hN, v, hR⟩ := hW
  have c2 := hR.c2
  by_cases h : n % 8 = 0
  · have e : up8 n = n := by unfold up8; omega
    rw [h] at c2
    rw [e]
    clear hR
    go_enter Try.func7, Try.ntmps7
    go_wp2_with fail
    go_returns
    exact ⟨rfl, HW.out, Keep.refl _ _ _⟩
  · obtain ⟨m, hm⟩ : ∃ m, n % 8 = m := ⟨_, rfl⟩
    rw [hm] at c2
    have hm1 : 1 ≤ m ∧ m ≤ 7 := by omega
    have HQ := hid (show Calls Try.prog 5 #[.pointer (some ⟨G, 0, none⟩), .int .u32 0, .int .i64 (8 - (m : Int))] w fun e w' => e = .returned (.tuple #[]) ∧ Wt w' b0 G N (up8 n) ∧ Keep G 5 w w' from by
      have q := wbits b0 G N n 0 (8 - (m : Int)) w HW.out hb0 (by decide) (by omega) (by omega) hn
      have e1 : manyN (8 - (m : Int)) = 8 - m := by unfold manyN; omega
      have e2 : n + (8 - m) = up8 n := by unfold up8; omega
      rw [e1, e2, Nat.zero_mod, Nat.mul_zero, Nat.add_zero] at q
      exact q)
    clear hR h hm
    go_enter Try.func7, Try.ntmps7
    go_wp2_with fail
    refine HQ.out.mono ?_
    rintro e w1 ⟨rfl, h1, h2⟩
    have H1 := hid h1
    have H2 := hid h2
    clear h1 h2
    go_wp2_with fail
    go_returns
    exact ⟨rfl, H1.out, H2.out⟩

/-- The bits of a text laid behind. -/
def addT (N n : Nat) (s : ByteArray) : Nat := N + 2 ^ (up8 n) * getL s.data.toList

set_option maxRecDepth 100000 in
set_option maxHeartbeats 2000000 in
theorem wtext (b0 G N n : Nat) (s : ByteArray) (w : World) (hW : Wt w b0 G N n) (hb0 : b0 ≤ w.heap.size) (hn : n ≤ 1099511627776) (hs : s.size ≤ 1000) :
    Calls Try.prog 9 #[.pointer (some ⟨G, 0, none⟩), .string s] w fun e w' => e = .returned (.tuple #[]) ∧ Wt w' b0 G (addT N n s) (up8 n + 8 * s.size) ∧ Keep G 5 w w' := by
  have HW := hid hW
  have hN := hW.1
  have HNU := hid (lt_up N n (up8 n) hN (up8_le n).1)
  have hu := up8_le n
  have hum := up8_mod n
  clear hW hN
  go_enter Try.func9, Try.ntmps9
  go_wp2_with fail
  refine (walign b0 G N n _ HW.out hb0 hn).mono ?_
  rintro e w1 ⟨rfl, h1, h2⟩
  have HK1 := hid h2
  obtain ⟨_, v, hR⟩ := h1
  have hbw : b0 ≤ w1.heap.size := Nat.le_trans hb0 h2.below.size
  have HFT := hid (show addT N n s < 2 ^ (up8 n + 8 * s.size) by
    unfold addT
    refine more_lt _ _ _ _ HNU.out ?_
    have := getL_lt s.data.toList
    rw [p256] at this
    simpa using this)
  have HFL := hid (show putL (addT N n s) (up8 n / 8 + s.size) = putL N (up8 n / 8) ++ s.data.toList by
    unfold addT
    rw [two_256 _ hum, putL_more _ _ _ _ (lt_256 _ _ HNU.out hum)]
    have := put_get s.data.toList
    have e : s.data.toList.length = s.size := by simp
    rw [e] at this
    rw [this])
  have HR0 := hid (show N / 256 ^ (up8 n / 8) = 0 from Nat.div_eq_of_lt (lt_256 _ _ HNU.out hum))
  have HR9 := hid (show addT N n s / 256 ^ ((up8 n + 8 * s.size) / 8) = 0 from Nat.div_eq_of_lt (lt_256 _ _ HFT.out (by omega)))
  rw [HR0.out, hum] at hR
  have HR := hid hR
  have c0 := hR.c0
  have f0 := hR.fr 0
  have hGl := hR.lt
  obtain ⟨A, cap, rfl⟩ := own_form hR.own
  clear hR h2 HNU HR0
  obtain ⟨f, hf⟩ : ∃ f, up8 n / 8 = f := ⟨_, rfl⟩
  rw [hf] at HFL HR c0
  have HLN := hid (putL_length N f)
  generalize putL N f = l at *
  obtain ⟨i0, hi, hz0, hz1, hz2⟩ := info_parts info5
  have HI := hid hi
  clear hi
  have HZ1 := hid (show l.length + s.size ≤ maxLen by rw [HLN.out]; unfold maxLen; omega)
  have HZ2 := hid (show l.length + s.size ≤ 140737488355328 by rw [HLN.out]; omega)
  go_wp2_with (at_builtin; (refine Lib.wpList_append_own_string _ (by rfl) _ _ 23 9 (by rfl) b0 5 i0 und23 Try.underlying9 HI.out hz0 hz1 hz2 (.slice A l.length cap) l.length (byteCells l) (by rfl) HR.out.own s (by rfl) HZ1.out HZ2.out hbw ?_); intro v' w2 hown1 hgrow1 hiff1; have HO1 := hid hown1; have HG1 := hid hgrow1; have hb2 := grown_keeps HR.out.own hgrow1 HR.out.blk (by decide); have d0 : w2.cell? ⟨G, 0, none⟩ = some _ := cell_of_row _ _ _ _ _ _ hb2; have d1 : w2.frozen? ⟨G, 0, none⟩ = false := frozen_of_row _ _ _ _ _ hb2; obtain ⟨A', c', rfl⟩ := own_form hown1; clear hown1 hgrow1 hiff1 hb2)
  go_returns
  refine ⟨rfl, ⟨HFT.out, .slice A' (l.length + s.size) c', ?_⟩, HK1.out.trans (((Keep.refl G 5 w1).grown HR.out.own HG1.out hGl HR.out.low).setCell 0 _)⟩
  have e1 : (up8 n + 8 * s.size) / 8 = f + s.size := by omega
  have e2 : (up8 n + 8 * s.size) % 8 = 0 := by omega
  rw [HR9.out, e1, e2, HFL.out]
  have h := set_v (m := s.data.toList) HR.out HG1.out (by rw [show s.data.toList.length = s.size by simp]; exact HO1.out)
  exact h

theorem conv_at (W : World) (g x c : Nat) (hx : x < 256) (h : W.heap[g]? = some (.cells #[.int .u8 (IntKind.u8.wrap (x : Int))] 5 (0, 0))) : (convert 23 9 (.slice (some ⟨g, 0, none⟩) 1 c)).run Try.prog W = .ok (.string ⟨#[UInt8.ofNat x]⟩) W := by
  refine run_convert_bytes_back _ 23 9 5 ⟨g, 0, none⟩ c [UInt8.ofNat x] und23 Try.underlying5 Try.underlying9 ?_
  intro j hj
  have : j = 0 := by simp at hj; omega
  subst this
  show W.cell? ⟨g, 0, none⟩ = _
  rw [cell_of_row _ _ _ _ _ _ h]
  simp only [List.getElem_cons_zero]
  have e : (UInt8.ofNat x).toNat = x := by simp; omega
  have e2 : IntKind.u8.wrap (x : Int) = (x : Int) := by rw [IntKind.wrap_u8]; omega
  rw [e, e2]
  rfl

/-- The bytes of so many bits. -/
def bytesB (N n : Nat) : ByteArray := ⟨(putL N ((n + 7) / 8)).toArray⟩
theorem bytes_even (N n : Nat) (h : n % 8 = 0) : (⟨(putL N (n / 8)).toArray⟩ : ByteArray) = bytesB N n := by
  unfold bytesB
  rw [show (n + 7) / 8 = n / 8 by omega]
theorem bytes_odd (N n : Nat) (h : ¬ n % 8 = 0) (hN : N < 2 ^ n) : (⟨(putL N (n / 8)).toArray⟩ : ByteArray) ++ ⟨#[UInt8.ofNat (N / 256 ^ (n / 8))]⟩ = bytesB N n := by
  unfold bytesB
  rw [show (n + 7) / 8 = n / 8 + 1 by omega, putL_succ]
  have h1 := rest_lt N n hN
  have h2 : 2 ^ (n % 8) ≤ 2 ^ 7 := Nat.pow_le_pow_right (by decide) (by omega)
  rw [Nat.mod_eq_of_lt (show N / 256 ^ (n / 8) < 256 by omega)]
  apply ByteArray.ext
  simp

set_option maxRecDepth 100000 in
set_option maxHeartbeats 2000000 in
theorem wbytes (b0 G N n : Nat) (w : World) (hW : Wt w b0 G N n) (hn : n ≤ 1099511627776) :
    Calls Try.prog 12 #[.pointer (some ⟨G, 0, none⟩)] w fun e w' => e = .returned (.string (bytesB N n)) ∧ Below w.heap.size w w' := by
  obtain ⟨hN, v, hR⟩ := hW
  by_cases h : n % 8 = 0
  · have HB := hid (bytes_even N n h)
    have c0 := hR.c0
    have c2 := hR.c2
    rw [h] at c2
    have hc := conv_own rfl hR.own
    rw [HB.out] at hc
    obtain ⟨A, cap, rfl⟩ := own_form hR.own
    clear hR h hN HB
    generalize bytesB N n = X at *
    go_enter Try.func12, Try.ntmps12
    go_wp2_with fail
    go_ret
    exact ⟨rfl, Below.refl _ _⟩
  · have HB := hid (bytes_odd N n h hN)
    have hr := rest_lt N n hN
    have hm : 2 ^ (n % 8) ≤ 2 ^ 7 := Nat.pow_le_pow_right (by decide) (by omega)
    have c0 := hR.c0
    have c1 := hR.c1
    have c2 := hR.c2
    have hG := hR.lt
    have hne : ¬ ((n % 8 : Nat) : Int) = 0 := by omega
    have HCV := hid (fun W (h : Raw W b0 G v (putL N (n / 8)) ((N / 256 ^ (n / 8) : Nat) : Int) ((n % 8 : Nat) : Int)) => conv_own rfl h.own)
    have HR := hid hR
    obtain ⟨A, cap, rfl⟩ := own_form hR.own
    have hcv := HCV.out w hR
    have hcd := HCV.out w.drew hR.drew
    obtain ⟨r, hrr⟩ : ∃ r, N / 256 ^ (n / 8) = r := ⟨_, rfl⟩
    rw [hrr] at HB c1 hr HCV HR
    have hrx : r < 256 := by omega
    have h1 := conv_at (w.alloc (.cells #[.int .u8 (IntKind.u8.wrap (r : Int))] 5)) w.heap.size r 1 hrx (heap_alloc_new _ _)
    have h2 := conv_at (w.alloc (.cells #[.int .u8 (IntKind.u8.wrap (r : Int))] 5)).drew w.heap.size r 1 hrx (heap_alloc_new _ _)
    have h3 := conv_at (w.drew.alloc (.cells #[.int .u8 (IntKind.u8.wrap (r : Int))] 5)) w.heap.size r 1 hrx (heap_alloc_new _ _)
    have hca := HCV.out _ (HR.out.alloc (.cells #[.int .u8 (IntKind.u8.wrap (r : Int))] 5))
    have hcb := HCV.out _ (HR.out.alloc (.cells #[.int .u8 (IntKind.u8.wrap (r : Int))] 5)).drew
    have hcc := HCV.out _ (HR.out.drew.alloc (.cells #[.int .u8 (IntKind.u8.wrap (r : Int))] 5))
    clear hR h hN HCV hr hm hrr
    generalize bytesB N n = X at *
    have hsz : (⟨(putL N (n / 8)).toArray⟩ : ByteArray).size ≤ 137438953472 := by
      show (putL N (n / 8)).toArray.size ≤ _
      rw [List.size_toArray, putL_length]; omega
    generalize (⟨(putL N (n / 8)).toArray⟩ : ByteArray) = F at *
    obtain ⟨L, hL⟩ : ∃ L, (putL N (n / 8)).length = L := ⟨_, rfl⟩
    rw [hL] at c0 hcv hcd hca hcb hcc HR
    have hsz2 : ¬ 9223372036854775807 < F.size + 1 := by omega
    clear hL
    go_enter Try.func12, Try.ntmps12
    go_wp2_with fail
    go_region_law (fail)
    all_goals go_wp2_with fail
    all_goals go_ret
    all_goals exact ⟨ret_str HB.out, by first | exact ((Below.refl _ _).alloc (Nat.le_refl _) _).drew | exact (Below.refl _ _).alloc (Nat.le_refl _) _ | exact ((Below.refl _ _).drew).alloc (Nat.le_refl _) _⟩
end Go.Proofs.Ytlgnapapofgdfaa
