/- WALKS over the document's own writer of bits: up to a byte's end, texts. -/
import Derived.Test.YtlgnapapofgdfaaBitR
import Derived.Test.YtlgnapapofgdfaaBitC
namespace Go.Proofs.Ytlgnapapofgdfaa
set_option linter.unusedVariables false
open Go.RowKit
open Go.Proofs.Bit
attribute [local go_sem ↓] Go.wp_at_zero Go.wp_at_succ

set_option maxRecDepth 100000 in
set_option maxHeartbeats 4000000 in
theorem ralign (b0 G N n : Nat) (w : World) (hW : ∃ x, Rt w b0 G N n x) (hb0 : b0 ≤ w.heap.size) (hn : n ≤ 1048576) :
    Calls Try.prog 8 #[.pointer (some ⟨G, 0, none⟩)] w fun e w' => e = .returned (.tuple #[]) ∧ (∃ x, Rt w' b0 G N (up8 n) x) ∧ Keep G 32 w w' := by
  obtain ⟨x0, hR0⟩ := hW
  have HR0 := hid hR0
  obtain ⟨i0, hi, hz0, hz1, hz2⟩ := info_parts info32
  have HI := hid hi
  have hu := up8_le n
  have HU := hid (show ∀ i, i % 8 = 0 → n ≤ i → i ≤ up8 n → i = up8 n by intro i h1 h2 h3; unfold up8 at h3 ⊢; omega)
  have HU2 := hid (show ∀ i, ¬ i % 8 = 0 → i ≤ up8 n → i + 1 ≤ up8 n by intro i h1 h3; unfold up8 at h3 ⊢; omega)
  generalize up8 n = u at *
  clear hi hR0
  go_enter Try.func8, Try.ntmps8
  go_wp2_with fail
  go_loopg [] (u - n) (fun g wr => ∃ i : Nat, g = u - i ∧ n ≤ i ∧ i ≤ u ∧ b0 ≤ wr.heap.size ∧ (∃ x, Rt wr b0 G N i x) ∧ Keep G 32 w wr)
  case atStart => exact ⟨n, rfl, Nat.le_refl _, hu.1, hb0, ⟨x0, HR0.out⟩, Keep.refl _ _ _⟩
  case round =>
    obtain ⟨i, rfl, hni, hiu, hbw, ⟨x1, hr⟩, hkp⟩ := hrel
    have HRI := hid hr
    have HKI := hid hkp
    have HBW := hid hbw
    have c0 := hr.c0
    have f0 := hr.fr
    have hGl := hr.lt
    obtain ⟨A, cap, rfl⟩ := own_form32 hr.own
    clear hr hkp
    by_cases h8 : i % 8 = 0
    · have e := HU.out i h8 hni hiu
      subst e
      have h8' : ((i : Int) % 8) = 0 := by omega
      clear HU HU2
      go_wp2_with fail
      go_returns
      exact ⟨rfl, ⟨_, HRI.out⟩, HKI.out⟩
    · have hiu2 := HU2.out i h8 hiu
      have h8' : ¬ ((i : Int) % 8) = 0 := by omega
      have HL1 := hid (show i + 1 ≤ maxLen by unfold maxLen; omega)
      have HL2 := hid (show (i + 1) * 4 ≤ 140737488355328 by omega)
      clear HU HU2
      go_wp2_with (at_builtin; (refine wpList_append_lies _ (by rfl) _ _ _ (by rfl) b0 32 i0 (.int .u32 0) 1 4 und27 HI.out hz0 hz1 hz2 (by rfl) (by decide) (.slice A i cap) i _ (by rfl) (by first | exact HRI.out.own.alloc _ | exact (HRI.out.own.alloc _).drew) ⟨wr.heap.size, 0, none⟩ 1 1 [.int .u32 0] (by rfl) (by rfl) (World.news_of_block (heap_alloc_new _ _)) (by simp [Value.oneCell']) (by decide) HL1.out HL2.out (by have := HBW.out; simp; omega) (wr.heap.size + 1) (by simp) ?_); intro g1 cap1 w1 hown1 hgrow1 hat1 hlt1; obtain ⟨d0, d1, d2, d3, d4⟩ := bit_more (x := 0) (by first | exact HRI.out.alloc _ | exact (HRI.out.alloc _).drew) (by first | exact HKI.out.alloc hGl _ | exact (HKI.out.alloc hGl _).drew) hgrow1 hown1; have D2 := hid d2; have D3 := hid d3; have D4 := hid d4; clear d2 d3 d4 hown1 hgrow1 hat1)
      go_roundg (u - (i + 1))
      case measure => omega
      case rel =>
        refine ⟨i + 1, rfl, by omega, hiu2, ?_, ⟨_, by have h := D2.out; rw [Nat.zero_mod, Nat.mul_zero, Nat.add_zero] at h; exact h⟩, D3.out⟩
        have h1 := D4.out
        have h2 := HBW.out
        simp at h1 ⊢
        omega

theorem getL_snoc (l : List UInt8) (c : UInt8) : getL (l ++ [c]) = getL l + 256 ^ l.length * c.toNat := by
  induction l with
  | nil => simp [getL]
  | cons d l ih =>
    simp only [List.cons_append, getL, ih, List.length_cons, Nat.pow_succ]
    rw [Nat.mul_add, ← Nat.mul_assoc, Nat.mul_comm 256 (256 ^ l.length), Nat.add_assoc]

theorem text_step (N n : Nat) (s : ByteArray) (i : Nat) (h : i < s.size) :
    N + 2 ^ (up8 n) * getL (s.data.toList.take i) + 2 ^ (up8 n + 8 * i) * (s[i].toNat % 2 ^ 8) = N + 2 ^ (up8 n) * getL (s.data.toList.take (i + 1)) := by
  have e : s.data.toList.take (i + 1) = s.data.toList.take i ++ [s[i]] := by
    rw [List.take_succ_eq_append_getElem (by simpa using h)]; rfl
  have hl : (s.data.toList.take i).length = i := by rw [List.length_take]; simp; omega
  have hc := UInt8.toNat_lt s[i]
  rw [e, getL_snoc, hl, Nat.pow_add, Nat.mul_assoc, Nat.add_assoc, ← Nat.mul_add, Nat.mod_eq_of_lt (by omega), p256]

set_option maxRecDepth 100000 in
set_option maxHeartbeats 4000000 in
theorem rtext (b0 G N n : Nat) (s : ByteArray) (w : World) (hW : ∃ x, Rt w b0 G N n x) (hb0 : b0 ≤ w.heap.size) (hn : n ≤ 1000000) (hs : s.size ≤ 1000) :
    Calls Try.prog 10 #[.pointer (some ⟨G, 0, none⟩), .string s] w fun e w' => e = .returned (.tuple #[]) ∧ (∃ x, Rt w' b0 G (addT N n s) (up8 n + 8 * s.size) x) ∧ Keep G 32 w w' := by
  have HW := hid hW
  have hu := up8_le n
  clear hW
  go_enter Try.func10, Try.ntmps10
  go_wp2_with fail
  refine (ralign b0 G N n _ HW.out hb0 (by omega)).mono ?_
  rintro e w1 ⟨rfl, h1, h2⟩
  have HK1 := hid h2
  have HR1 := hid h1
  have HB1 := hid (Nat.le_trans hb0 h2.below.size)
  clear h1 h2
  go_wp2_with fail
  go_loopw [4] (fun ii wr => ∃ i : Nat, i ≤ s.size ∧ ii = .int .i64 i ∧ b0 ≤ wr.heap.size ∧ (∃ x, Rt wr b0 G (N + 2 ^ (up8 n) * getL (s.data.toList.take i)) (up8 n + 8 * i) x) ∧ Keep G 32 w wr) (fun ii _ => s.size - (intOf ii).toNat)
  case atStart => exact ⟨0, by omega, rfl, HB1.out, by simpa [getL] using HR1.out, HK1.out⟩
  case round =>
    obtain ⟨i, hi, rfl, hbw, hr, hkp⟩ := hrel
    have HRI := hid hr
    have HKI := hid hkp
    clear hr hkp
    by_cases hlt : i < s.size
    · have HTS := hid (text_step N n s i hlt)
      have hc := UInt8.toNat_lt s[i]
      have HQ := hid (rbits b0 G _ _ s[i].toNat 8 wr HRI.out hbw (by omega) (by decide) (by decide) (by omega))
      rw [show manyN 8 = 8 by decide, HTS.out] at HQ
      clear HTS
      go_wp2_with fail
      refine HQ.out.mono ?_
      rintro e w2 ⟨rfl, h3, h4⟩
      have H3 := hid h3
      have H4 := hid h4
      have HB2 := hid (Nat.le_trans hbw h4.below.size)
      clear h3 h4
      go_wp2_with fail
      go_roundw
      case rel => exact ⟨i + 1, by omega, by go_num, HB2.out, by have h := H3.out; rw [show up8 n + 8 * i + 8 = up8 n + 8 * (i + 1) by omega] at h; exact h, HKI.out.trans H4.out⟩
      case measure => simp [intOf]; omega
    · obtain rfl : i = s.size := by omega
      go_wp2_with fail
      go_returns
      refine ⟨rfl, ?_, HKI.out⟩
      have h := HRI.out
      rw [List.take_of_length_le (by simp)] at h
      exact h
end Go.Proofs.Ytlgnapapofgdfaa
