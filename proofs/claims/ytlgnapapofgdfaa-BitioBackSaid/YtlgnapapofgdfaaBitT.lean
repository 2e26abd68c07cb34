/- WALKS over the document's own writer of bits: its bytes. -/
import Derived.Test.YtlgnapapofgdfaaBitS
namespace Go.Proofs.Ytlgnapapofgdfaa
set_option linter.unusedVariables false
open Go.RowKit
open Go.Proofs.Bit
attribute [local go_sem ↓] Go.wp_at_zero Go.wp_at_succ

theorem Rt.cells {w : World} {b0 G N n : Nat} {v : Value} (h : Rt w b0 G N n v) (hn : 0 < n) : ∃ g cap, v = .slice (some ⟨g, 0, none⟩) n cap ∧ ∀ j, j < n → w.cell? ⟨g, j, none⟩ = some (.int .u32 ((bitAt N j : Nat) : Int)) := by
  rcases h.own.2 with ⟨rfl, h0⟩ | ⟨g, cap, cur, rfl, hb, hg, _, _, _, htk⟩
  · omega
  · refine ⟨g, cap, rfl, fun j hj => ?_⟩
    rw [cell_of_row w g j cur 32 (0, 0) hg]
    have h1 : (cur.toList.take (n * 1))[j]? = (bitCells (bitsL N n))[j]? := by rw [htk]
    rw [Nat.mul_one, List.getElem?_take_of_lt hj] at h1
    rw [← Array.getElem?_toList, h1]
    have hl : j < (bitsL N n).length := by rw [bitsL_length]; exact hj
    unfold bitCells
    rw [List.getElem?_map, List.getElem?_eq_getElem hl, bitsL_at N n j hj]
    rfl

/-- The first bytes, as a text. -/
def firstB (N q : Nat) : ByteArray := ⟨(putL N q).toArray⟩
theorem firstB_succ (N q : Nat) (B : Nat) (h : B = N / 2 ^ (8 * q) % 2 ^ 8) : firstB N q ++ ⟨#[UInt8.ofNat B]⟩ = firstB N (q + 1) := by
  unfold firstB
  rw [putL_succ, p256, h]
  apply ByteArray.ext
  simp
theorem firstB_size (N q : Nat) : (firstB N q).size = q := by
  show (putL N q).toArray.size = q
  rw [List.size_toArray, putL_length]
theorem bit_none (N n i : Nat) (hN : N < 2 ^ n) (h : n ≤ i) : bitAt N i = 0 := by
  unfold bitAt
  rw [Nat.div_eq_of_lt (Nat.lt_of_lt_of_le hN (Nat.pow_le_pow_right (by decide) h))]
theorem part_lt (N a k : Nat) (h : k ≤ 8) : N / 2 ^ a % 2 ^ (8 - k) < 256 := by
  have h1 : N / 2 ^ a % 2 ^ (8 - k) < 2 ^ (8 - k) := Nat.mod_lt _ (Nat.two_pow_pos _)
  have h2 : 2 ^ (8 - k) ≤ 2 ^ 8 := Nat.pow_le_pow_right (by decide) (by omega)
  omega
theorem part_lt7 (N a k : Nat) (h : k ≤ 7) : N / 2 ^ a % 2 ^ (7 - k) < 128 := by
  have h1 : N / 2 ^ a % 2 ^ (7 - k) < 2 ^ (7 - k) := Nat.mod_lt _ (Nat.two_pow_pos _)
  have h2 : 2 ^ (7 - k) ≤ 2 ^ 7 := Nat.pow_le_pow_right (by decide) (by omega)
  omega

set_option maxRecDepth 100000 in
set_option maxHeartbeats 4000000 in
theorem rbytes (b0 G N n : Nat) (w : World) (hW : ∃ x, Rt w b0 G N n x) (hn : n ≤ 1048576) :
    Calls Try.prog 13 #[.pointer (some ⟨G, 0, none⟩)] w fun e w' => e = .returned (.string (bytesB N n)) ∧ Below w.heap.size w w' := by
  obtain ⟨x0, hR0⟩ := hW
  have HR0 := hid hR0
  have hN := hR0.lt2
  obtain ⟨A, cap, rfl⟩ := own_form32 hR0.own
  clear hR0
  go_enter Try.func13, Try.ntmps13
  go_wp2_with fail
  go_loopw [3, 4] (fun ss ii wr => ∃ q : Nat, q ≤ (n + 7) / 8 ∧ ii = .int .i64 ((8 * q : Nat) : Int) ∧ ss = .string (firstB N q) ∧ Rt wr b0 G N n (.slice A n cap) ∧ Below w.heap.size w wr) (fun _ ii _ => (1048600 - intOf ii).toNat)
  case atStart => exact ⟨0, by omega, rfl, rfl, HR0.out, Below.refl _ _⟩
  case round =>
    obtain ⟨q, hq, rfl, rfl, hr, hB⟩ := hrel
    have HR := hid hr
    have HB := hid hB
    have c0 := hr.c0
    clear hr hB
    by_cases hlt : 8 * q < n
    · obtain ⟨g, cap', hv, hcell⟩ := HR.out.cells (by omega)
      simp only [Value.slice.injEq, true_and] at hv
      obtain ⟨rfl, rfl⟩ := hv
      have HCELL := hid hcell
      clear hcell
      go_wp2_with fail
      go_loop [5, 6] (fun bb kk => ∃ j : Nat, j ≤ 8 ∧ kk = .int .i64 ((j : Int) - 1) ∧ bb = .int .u32 ((N / 2 ^ (8 * q + j) % 2 ^ (8 - j) : Nat) : Int)) (fun _ kk => (intOf kk + 1).toNat)
      case atStart => exact ⟨8, by omega, rfl, by simp [Nat.mod_one]⟩
      case round =>
        obtain ⟨j, hj, rfl, rfl⟩ := hrel
        by_cases hj0 : 0 < j
        · obtain ⟨k, rfl⟩ : ∃ k, j = k + 1 := ⟨j - 1, by omega⟩
          have hd := bits_down N (8 * q) k (by omega)
          have hb := part_lt7 N (8 * q + (k + 1)) k (by omega)
          have e1 : ((k + 1 : Nat) : Int) - 1 = (k : Int) := by omega
          have e2 : 8 - (k + 1) = 7 - k := by omega
          rw [e1, e2]
          clear e1 e2
          have HD := hid hd
          clear hd
          generalize N / 2 ^ (8 * q + (k + 1)) % 2 ^ (7 - k) = B at *
          by_cases hin : 8 * q + k < n
          · have hc := HCELL.out (8 * q + k) hin
            have hbit : bitAt N (8 * q + k) ≤ 1 := by unfold bitAt; omega
            generalize bitAt N (8 * q + k) = bt at *
            go_wp2_with fail
            go_round
            case rel => exact ⟨k, by omega, rfl, val_int (by rw [← HD.out]; omega)⟩
            case measure => simp [intOf]
          · have hz := bit_none N n (8 * q + k) hN (by omega)
            rw [hz] at HD
            go_wp2_with fail
            go_round
            case rel => exact ⟨k, by omega, rfl, val_int (by rw [← HD.out]; omega)⟩
            case measure => simp [intOf]
        · obtain rfl : j = 0 := by omega
          obtain ⟨B, hB⟩ : ∃ B, N / 2 ^ (8 * q + 0) % 2 ^ (8 - 0) = B := ⟨_, rfl⟩
          have hb := part_lt N (8 * q + 0) 0 (by omega)
          rw [hB] at hb ⊢
          have HS := hid (firstB_succ N q B (by rw [← hB]; rfl))
          have hsz := firstB_size N q
          have hsz2 : ¬ 9223372036854775807 < (firstB N q).size + 1 := by rw [hsz]; omega
          have h1 := conv_at (wr.alloc (.cells #[.int .u8 (IntKind.u8.wrap (B : Int))] 5)) wr.heap.size B 1 hb (heap_alloc_new _ _)
          have ew : IntKind.u8.wrap (B : Int) = (B : Int) := by rw [IntKind.wrap_u8]; omega
          rw [ew] at h1
          clear ew hB
          generalize firstB N q = F at *
          go_wp2_with fail
          go_roundw
          case rel => exact ⟨q + 1, by omega, val_int (by omega), by rw [HS.out], HR.out.alloc _, HB.out.alloc HB.out.size _⟩
          case measure => simp [intOf]; omega
    · obtain rfl : q = (n + 7) / 8 := by omega
      go_wp2_with fail
      go_ret
      exact ⟨rfl, HB.out⟩
end Go.Proofs.Ytlgnapapofgdfaa
