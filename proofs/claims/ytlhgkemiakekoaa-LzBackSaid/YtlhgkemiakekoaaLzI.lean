/- LZ: the bytes of tokens, as the document makes them. -/
import Derived.Test.YtlhgkemiakekoaaLzG
namespace Go.Proofs.Ytlhgkemiakekoaa
set_option linter.unusedVariables false
open Go.RowKit
attribute [local go_sem ↓] Go.wp_at_zero Go.wp_at_succ
namespace Lz
/-- A text of such bytes. -/
def Str (t : ByteArray) (l : List UInt8) : Prop := t = ⟨l.toArray⟩
theorem Str.size {t : ByteArray} {l : List UInt8} (h : Str t l) : t.size = l.length := by unfold Str at h; subst h; simp [ByteArray.size]
theorem ba_ext {a b : ByteArray} (h : a.data.toList = b.data.toList) : a = b := by
  obtain ⟨a⟩ := a
  obtain ⟨b⟩ := b
  simp only at h
  rw [Array.toList_inj.1 h]
theorem Str.add {t : ByteArray} {l : List UInt8} (h : Str t l) (u : UInt8) : Str (t ++ ⟨#[u]⟩) (l ++ [u]) := by
  unfold Str at h ⊢
  subst h
  apply ba_ext
  simp
theorem Str.copy {t : ByteArray} {l : List UInt8} (h : Str t l) (q : Nat) (hq : q < l.length) : Str (t ++ t.extract q (q + 1)) (l ++ [l.getD q 0]) := by
  unfold Str at h ⊢
  subst h
  apply ba_ext
  simp
  rw [List.drop_eq_getElem_cons hq, List.getElem?_eq_getElem hq]
  rfl
theorem conv_one (W : World) (u : UInt8) : (convert 38 9 (.slice (some ⟨W.heap.size, 0, none⟩) 1 1)).run Try.prog (W.alloc (.cells #[.int .u8 (u.toNat : Int)] 5)) = .ok (.string ⟨#[u]⟩) (W.alloc (.cells #[.int .u8 (u.toNat : Int)] 5)) := by
  refine run_convert_bytes_back (P := Try.prog) _ 38 9 5 ⟨W.heap.size, 0, none⟩ 1 [u] und38 Try.underlying5 Try.underlying9 ?_
  intro j hj
  obtain rfl : j = 0 := by simpa using hj
  rw [show (⟨W.heap.size, 0, none⟩ : Addr).add 0 = ⟨W.heap.size, 0, none⟩ from rfl, cell_of_row _ _ _ _ _ _ (heap_alloc_new _ _)]
  rfl
theorem ret_yes {t : ByteArray} {l : List UInt8} (h : Str t l) : Ending.returned (.tuple #[.string t, .bool true]) = .returned (expV (some l)) := by unfold Str at h; subst h; rfl
theorem ret_exp {r : Option (List UInt8)} {v : Value} (h : v = expV r) : Ending.returned v = .returned (expV r) := by rw [h]

set_option maxRecDepth 100000 in
set_option maxHeartbeats 4000000 in
theorem refExpand (A : Option Addr) (b off n c : Nat) (x y z : Nat → Int) (w : World) (hn : n ≤ 1000000) (hs : ToksAt w A b off n x y z) (hx : ∀ k, k < n → 0 ≤ x k ∧ x k < 256)
    (hy : ∀ k, k < n → -9223372036854775808 ≤ y k ∧ y k ≤ 9223372036854775807) :
    Calls Try.prog 9 #[.slice A n c] w fun e w' => e = .returned (expV (expT x y z n)) ∧ Below w.heap.size w w' := by
  have HS := hid hs
  have HU := hid hx
  have HY := hid hy
  clear hs hx hy
  go_enter Try.func9, Try.ntmps9
  go_upto_region 3 with fail
  go_loopw [4, 11] (fun st i wr => ∃ (k : Nat) (l : List UInt8) (t : ByteArray), k ≤ n ∧ i = .int .i64 k ∧ st = .string t ∧ Str t l ∧ expT x y z k = some l ∧ Below w.heap.size w wr) (fun _ i _ => n - (intOf i).toNat)
  case atStart => exact ⟨0, [], ⟨#[]⟩, Nat.zero_le _, rfl, rfl, rfl, rfl, Below.refl _ _⟩
  case round =>
    obtain ⟨k, l, t, hk, rfl, rfl, hst, hrun, hB⟩ := hrel
    have HR := hid hrun
    have HB := hid hB
    have HST := hid hst
    have hll := expT_len k l hrun
    have hts := hst.size
    obtain ⟨m0, hm0⟩ : ∃ m0 : Int, (t.size : Int) = m0 := ⟨_, rfl⟩
    have HM0 : Hid (m0 = (l.length : Int)) := hid (by omega)
    have ⟨m1, m2⟩ : 0 ≤ m0 ∧ m0 ≤ 65000 := by omega
    clear hst hrun hB hll hts
    by_cases hlt : k < n
    · obtain rfl := HS.out.ad (by omega)
      obtain ⟨c0, c1, c2⟩ := (HS.out.below HB.out).at_ k hlt
      have HT := hid (expT_succ HR.out)
      have HN := hid (fun (h : oneE l (x k) (y k) (z k) = none) => expT_none (k := k + 1) (HT.out.trans h) n (by omega))
      have HX := hid (HU.out k hlt)
      have HY2 := hid (HY.out k hlt)
      generalize x k = s at *
      generalize y k = p at *
      generalize z k = m at *
      obtain ⟨u, hu⟩ : ∃ u : UInt8, (u.toNat : Int) = s := ⟨UInt8.ofNat s.toNat, u8_back HX.out.1 HX.out.2⟩
      subst hu
      by_cases h0 : p = 0
      · by_cases h1 : m = 0
        · have hb : isB p m := ⟨h0, h1⟩
          by_cases hf : 65000 ≤ m0
          · have HE := hid (HN.out (oneE_byte_full hb (by have := HM0.out; omega)))
            subst h0 h1
            go_wp2_with fail
            go_ret2
            exact ⟨ret_exp (by rw [HE.out]; rfl), HB.out.alloc HB.out.size _⟩
          · have HE := hid (HT.out.trans (oneE_byte hb (by have := HM0.out; omega)))
            rw [show UInt8.ofNat ((u.toNat : Int)).toNat = u by simp] at HE
            have hcv := conv_one (wr.alloc (.cells #[.int .u8 (u.toNat : Int), .int .i64 0, .int .i64 0] 24)) u
            simp only [World.size_alloc] at hcv
            subst h0 h1
            go_wp2_with fail
            go_roundw
            case rel => exact ⟨k + 1, _, _, by omega, by go_num, rfl, HST.out.add u, HE.out, (HB.out.alloc HB.out.size _).alloc (by have := HB.out.size; simp; omega) _⟩
            case measure => simp [intOf]; omega
        · have HE := hid (HN.out (oneE_bad (fun c => h1 c.2) (fun c => by unfold isC at c; omega)))
          have e1 : (m == 0) = false := by simpa using h1
          have e2 : (m != 0) = true := by simpa using h1
          subst h0
          go_wp2_with fail
          go_ret2
          exact ⟨ret_exp (by rw [HE.out]; rfl), HB.out.alloc HB.out.size _⟩
      · have HNB := hid (show ¬ isB p m from fun c => h0 c.1)
        have e0 : (p == 0) = false := by simpa using h0
        by_cases hc : isC (u.toNat : Int) p m l.length ∧ m0 + p ≤ 65000
        · have HE := hid (HT.out.trans (oneE_copy hc.1 (by have := HM0.out; omega)))
          obtain ⟨⟨q1, q2, q3, q4, q5, q6⟩, q7⟩ := hc
          rw [← HM0.out] at q6
          obtain ⟨Y, rfl⟩ := Int.eq_ofNat_of_zero_le (show 0 ≤ p by omega)
          obtain ⟨K, rfl⟩ := Int.eq_ofNat_of_zero_le (show 0 ≤ m by omega)
          simp only [Int.toNat_natCast] at HE
          have HC := hid (And.intro (show Y ≤ 258 by omega) (And.intro (show 1 ≤ K by omega) (show K ≤ l.length by have := HM0.out; omega)))
          have HBX := hid (bx_new HB.out (u.toNat : Int) (Y : Int) (K : Int))
          have r1 : ¬ (Y : Int) < 3 := by omega
          have r2 : ¬ (258 : Int) < (Y : Int) := by omega
          have r3 : ¬ (K : Int) < 1 := by omega
          have r4 : ¬ (32768 : Int) < (K : Int) := by omega
          have r5 : ¬ m0 < (K : Int) := by omega
          have r6 : ¬ (65000 : Int) < (Y : Int) + m0 := by omega
          have r7 : IntKind.i64.wrap ((Y : Int) + m0) = (Y : Int) + m0 := IntWalk.i64_in _ (by omega)
          have r0 : ((u.toNat : Int) == 0) = true := by simpa using q1
          have r0' : ((u.toNat : Int) != 0) = false := by simpa using q1
          clear q1 q2 q3 q4 q5 q6 q7 h0
          go_upto_block 8 with fail
          go_wp2_with fail
          obtain ⟨wo, rfl⟩ : ∃ wo : World, wo = wr := ⟨_, rfl⟩
          clear r0 r0' r1 r2 r3 r4 r5 r6 r7 hm0 m1 m2 HM0
          have HL9 := hid (expT_len k l HR.out)
          have HBX2 := hid HBX.out
          go_loopw [4, 8] (fun st j wr => ∃ (J : Nat) (t : ByteArray), J ≤ Y ∧ st = .string t ∧ j = .int .i64 J ∧ Str t (copyT l K J) ∧ wo.alloc (.cells #[.int .u8 (u.toNat : Int), .int .i64 (Y : Int), .int .i64 (K : Int)] 24) = wr) (fun _ j _ => Y - (intOf j).toNat)
          case atStart => exact ⟨0, _, Nat.zero_le _, rfl, rfl, HST.out, rfl⟩
          case round =>
            obtain ⟨J, t', hJ, rfl, rfl, hst, rfl⟩ := hrel
            have HS2 := hid hst
            have HC2 := HC.out
            have HL2 := HL9.out
            by_cases hj : J < Y
            · have hsz := hst.size
              rw [copyT_len] at hsz
              obtain ⟨Q, hQ⟩ : ∃ Q : Nat, Q = l.length + J - K := ⟨_, rfl⟩
              obtain ⟨N, hN⟩ : ∃ N : Nat, t'.size = N := ⟨_, rfl⟩
              have hJ258 : J < 258 := by omega
              have g1 : (Q : Int) + 1 ≤ (N : Int) := by omega
              have g2 : Q + 1 ≤ N := by omega
              have w0 : IntKind.i64.wrap ((N : Int) - (K : Int)) = (Q : Int) := by rw [IntWalk.i64_in _ (by omega)]; omega
              have w1 : IntKind.i64.wrap ((Q : Int) + 1) = ((Q + 1 : Nat) : Int) := by rw [IntWalk.i64_in _ (by omega)]; omega
              have HK := hid (hst.copy Q (by rw [copyT_len]; omega))
              have HK2 := hid (show copyT l K (J + 1) = copyT l K J ++ [(copyT l K J).getD Q 0] from by rw [copyT, copyT_len, hQ])
              have HNN := hid hN
              clear hst hsz hQ HC2 HL2
              have hN := HNN.out
              obtain ⟨d0, d1, d2⟩ := HBX.out.cells
              have hex : (t'.extract Q (Q + 1)).size = 1 := by rw [ByteArray.size_extract]; omega
              have hN7 : N ≤ 66000 := by have h9 := HL9.out; have h8 := HS2.out.size; rw [copyT_len] at h8; omega
              have hcat : (N : Int) + 1 ≤ 66001 := by omega
              clear hN7
              go_wp2_with fail
              go_roundw
              case rel => exact ⟨J + 1, _, by omega, rfl, by go_num, by rw [HK2.out]; exact HK.out, trivial⟩
              case measure => simp [intOf]; omega
            · obtain rfl : J = Y := by omega
              clear HC2 HL2 hst
              go_wp2_with fail
              go_roundw
              case rel => exact ⟨k + 1, _, _, by omega, by go_num, rfl, HS2.out, HE.out, HBX.out.below⟩
              case measure => simp [intOf]; omega
        · have HE := hid (HN.out (by
            by_cases hc1 : isC (u.toNat : Int) p m l.length
            · exact oneE_copy_full hc1 (fun h => hc ⟨hc1, by have := HM0.out; omega⟩)
            · exact oneE_bad HNB.out hc1))
          have HC := hid hc
          clear hc h0
          by_cases q1 : (u.toNat : Int) = 0
          rotate_left
          · have r0 : ((u.toNat : Int) == 0) = false := by simpa using q1
            have r0' : ((u.toNat : Int) != 0) = true := by simpa using q1
            have r0n : (u.toNat == 0) = false := by simpa using q1
            have r0m : (u.toNat != 0) = true := by simpa using q1
            clear q1
            go_wp2_with fail
            go_ret2
            exact ⟨ret_exp (by rw [HE.out]; rfl), HB.out.alloc HB.out.size _⟩
          have HQ1 := hid q1
          have r0 : ((u.toNat : Int) == 0) = true := by simpa using q1
          have r0' : ((u.toNat : Int) != 0) = false := by simpa using q1
          have r0n : (u.toNat == 0) = true := by simpa using q1
          have r0m : (u.toNat != 0) = false := by simpa using q1
          clear q1
          by_cases q2 : p < 3
          · go_wp2_with fail
            go_ret2
            exact ⟨ret_exp (by rw [HE.out]; rfl), HB.out.alloc HB.out.size _⟩
          by_cases q3 : 258 < p
          · go_wp2_with fail
            go_ret2
            exact ⟨ret_exp (by rw [HE.out]; rfl), HB.out.alloc HB.out.size _⟩
          by_cases q4 : m < 1
          · go_wp2_with fail
            go_ret2
            exact ⟨ret_exp (by rw [HE.out]; rfl), HB.out.alloc HB.out.size _⟩
          by_cases q5 : 32768 < m
          · go_wp2_with fail
            go_ret2
            exact ⟨ret_exp (by rw [HE.out]; rfl), HB.out.alloc HB.out.size _⟩
          by_cases q6 : m0 < m
          · go_wp2_with fail
            go_ret2
            exact ⟨ret_exp (by rw [HE.out]; rfl), HB.out.alloc HB.out.size _⟩
          have q7 : 65000 < p + m0 := by
            have h9 := HC.out
            have h8 := HQ1.out
            have h7 := HM0.out
            by_cases q : p + m0 ≤ 65000
            · exact absurd ⟨⟨h8, by omega, by omega, by omega, by omega, by omega⟩, by omega⟩ h9
            · omega
          have r7 : IntKind.i64.wrap (p + m0) = p + m0 := IntWalk.i64_in _ (by omega)
          go_wp2_with fail
          go_ret2
          exact ⟨ret_exp (by rw [HE.out]; rfl), HB.out.alloc HB.out.size _⟩
    · obtain rfl : k = n := by omega
      go_wp2_with fail
      go_ret2
      exact ⟨by rw [HR.out]; exact ret_yes HST.out, HB.out⟩
end Lz
end Go.Proofs.Ytlhgkemiakekoaa
