/- LZ: how many bytes tokens make; how many are bytes, and how many copies. -/
import Derived.Test.YtlhgkemiakekoaaLzE
namespace Go.Proofs.Ytlhgkemiakekoaa
set_option linter.unusedVariables false
open Go.RowKit
attribute [local go_sem ↓] Go.wp_at_zero Go.wp_at_succ
namespace Lz
/-- A box of a token. -/
structure Bx (w W : World) (G : Nat) (x y z : Int) : Prop where
  blk : W.heap[G]? = some (.cells #[.int .u8 x, .int .i64 y, .int .i64 z] 24 (0, 0))
  below : Below w.heap.size w W
theorem bx_new {w W : World} (h : Below w.heap.size w W) (x y z : Int) : Bx w (W.alloc (.cells #[.int .u8 x, .int .i64 y, .int .i64 z] 24)) W.heap.size x y z := ⟨heap_alloc_new _ _, h.alloc h.size _⟩
theorem Bx.step {w W W' : World} {G : Nat} {x y z : Int} (h : Bx w W G x y z) (hb : Below W.heap.size W W') : Bx w W' G x y z :=
  ⟨(hb.block G (Array.getElem?_eq_some_iff.1 h.blk).1).trans h.blk, h.below.trans (hb.mono h.below.size)⟩
theorem Bx.cells {w W : World} {G : Nat} {x y z : Int} (h : Bx w W G x y z) : W.cell? ⟨G, 0, none⟩ = some (.int .u8 x) ∧ W.cell? ⟨G, 1, none⟩ = some (.int .i64 y) ∧ W.cell? ⟨G, 2, none⟩ = some (.int .i64 z) :=
  ⟨by rw [cell_of_row _ _ _ _ _ _ h.blk]; rfl, by rw [cell_of_row _ _ _ _ _ _ h.blk]; rfl, by rw [cell_of_row _ _ _ _ _ _ h.blk]; rfl⟩
/-- How many bytes, or that the tokens may not be. -/
def madeV (r : Option (List UInt8)) : Value := match r with
  | none => .tuple #[.int .i64 0, .bool false]
  | some l => .tuple #[.int .i64 (l.length : Nat), .bool true]
theorem ret_made {r : Option (List UInt8)} {v : Value} (h : v = madeV r) : Ending.returned v = .returned (madeV r) := by rw [h]

set_option maxRecDepth 100000 in
set_option maxHeartbeats 2000000 in
theorem made (A : Option Addr) (b off n c : Nat) (x y z : Nat → Int) (w : World) (hn : n ≤ 1000000) (hs : ToksAt w A b off n x y z) :
    Calls Try.prog 18 #[.slice A n c] w fun e w' => e = .returned (madeV (expT x y z n)) ∧ Below w.heap.size w w' := by
  have HS := hid hs
  clear hs
  go_enter Try.func18, Try.ntmps18
  go_upto_region 3 with fail
  go_loopw [4, 9] (fun m i wr => ∃ (k : Nat) (l : List UInt8), k ≤ n ∧ m = .int .i64 (l.length : Nat) ∧ i = .int .i64 k ∧ expT x y z k = some l ∧ Below w.heap.size w wr) (fun _ i _ => n - (intOf i).toNat)
  case atStart => exact ⟨0, [], Nat.zero_le _, rfl, rfl, rfl, Below.refl _ _⟩
  case round =>
    obtain ⟨k, l, hk, rfl, rfl, hrun, hB⟩ := hrel
    have HR := hid hrun
    have HB := hid hB
    have hll := expT_len k l hrun
    clear hrun hB
    by_cases hlt : k < n
    · obtain rfl := HS.out.ad (by omega)
      obtain ⟨c0, c1, c2⟩ := (HS.out.below HB.out).at_ k hlt
      have HT := hid (expT_succ HR.out)
      have HN := hid (fun (h : oneE l (x k) (y k) (z k) = none) => expT_none (k := k + 1) (HT.out.trans h) n (by omega))
      generalize x k = s at *
      generalize y k = p at *
      generalize z k = m at *
      have BC := hid (fun W => isByte s p m W)
      have CC := hid (fun W => isCopy s p m l.length W)
      obtain ⟨m0, hm0⟩ : ∃ m0 : Int, (l.length : Int) = m0 := ⟨_, rfl⟩
      have HM0 := hid hm0
      have ⟨m1, m2⟩ : 0 ≤ m0 ∧ m0 ≤ 65000 := by omega
      rw [hm0] at CC ⊢
      clear hm0 hll
      by_cases hb : isB p m
      · have HBB := hid hb
        rw [decide_eq_true hb] at BC
        clear hb
        go_wp2_with fail
        refine (BC.out _).mono ?_
        rintro e w1 ⟨rfl, b1⟩
        have K1 := hid ((bx_new HB.out s p m).step b1)
        clear b1 c0 c1 c2
        by_cases hf : 65000 < m0 + 1
        · have HE := hid (HN.out (oneE_byte_full HBB.out (by have := HM0.out; omega)))
          go_wp2_with fail
          go_ret2
          exact ⟨ret_made (by rw [HE.out]; rfl), K1.out.below⟩
        · have HE := hid (HT.out.trans (oneE_byte HBB.out (by have := HM0.out; omega)))
          go_wp2_with fail
          go_roundw
          case rel => exact ⟨k + 1, _, by omega, by have := HM0.out; rw [List.length_append]; simp; omega, by go_num, HE.out, K1.out.below⟩
          case measure => simp [intOf]; omega
      · have HBB := hid hb
        rw [decide_eq_false hb] at BC
        clear hb
        go_wp2_with fail
        refine (BC.out _).mono ?_
        rintro e w1 ⟨rfl, b1⟩
        have K1 := hid ((bx_new HB.out s p m).step b1)
        obtain ⟨d0, d1, d2⟩ := K1.out.cells
        clear b1 c0 c1 c2
        by_cases hc : isC s p m l.length
        · have HCC := hid hc
          rw [decide_eq_true hc] at CC
          have ⟨p0, p1⟩ : 3 ≤ p ∧ p ≤ 258 := ⟨hc.2.1, hc.2.2.1⟩
          clear hc
          go_wp2_with fail
          refine (CC.out _).mono ?_
          rintro e w2 ⟨rfl, b2⟩
          have K2 := hid (K1.out.step b2)
          clear b2 d0 d1 d2
          obtain ⟨d0, d1, d2⟩ := K2.out.cells
          have w0 : IntKind.i64.wrap (m0 + p) = m0 + p := IntWalk.i64_in _ (by omega)
          by_cases hf : 65000 < m0 + p
          · have HE := hid (HN.out (oneE_copy_full HCC.out (by have := HM0.out; omega)))
            go_wp2_with fail
            go_ret2
            exact ⟨ret_made (by rw [HE.out]; rfl), K2.out.below⟩
          · have HE := hid (HT.out.trans (oneE_copy HCC.out (by have := HM0.out; omega)))
            go_wp2_with fail
            go_roundw
            case rel => exact ⟨k + 1, _, by omega, by have := HM0.out; rw [copyT_len]; simp; omega, by go_num, HE.out, K2.out.below⟩
            case measure => simp [intOf]; omega
        · have HE := hid (HN.out (oneE_bad HBB.out hc))
          rw [decide_eq_false hc] at CC
          clear hc
          go_wp2_with fail
          refine (CC.out _).mono ?_
          rintro e w2 ⟨rfl, b2⟩
          have K2 := hid (K1.out.step b2)
          clear b2 d0 d1 d2
          go_wp2_with fail
          go_ret2
          exact ⟨ret_made (by rw [HE.out]; rfl), K2.out.below⟩
    · obtain rfl : k = n := by omega
      go_wp2_with fail
      go_ret2
      exact ⟨ret_made (by rw [HR.out]; rfl), HB.out⟩
set_option maxRecDepth 100000 in
theorem right (A : Option Addr) (b off n c : Nat) (x y z : Nat → Int) (w : World) (hn : n ≤ 1000000) (hs : ToksAt w A b off n x y z) :
    Calls Try.prog 11 #[.slice A n c] w fun e w' => e = .returned (.bool (expT x y z n).isSome) ∧ Below w.heap.size w w' := by
  have HM := hid (made A b off n c x y z w hn hs)
  clear hs
  cases h : expT x y z n with
  | none =>
    rw [h] at HM
    unfold madeV at HM
    go_enter Try.func11, Try.ntmps11
    go_wp2_with fail
    refine HM.out.mono ?_
    rintro e w1 ⟨rfl, b1⟩
    go_wp2_with fail
    go_ret
    exact ⟨rfl, b1⟩
  | some l =>
    rw [h] at HM
    unfold madeV at HM
    go_enter Try.func11, Try.ntmps11
    go_wp2_with fail
    refine HM.out.mono ?_
    rintro e w1 ⟨rfl, b1⟩
    go_wp2_with fail
    go_ret
    exact ⟨rfl, b1⟩
/-- How many of the first ones are bytes. -/
def byN (y : Nat → Int) : Nat → Nat
  | 0 => 0
  | k + 1 => if y k = 0 then byN y k + 1 else byN y k
theorem byN_le (y : Nat → Int) : ∀ k, byN y k ≤ k := by
  intro k
  induction k with
  | zero => exact Nat.le_refl _
  | succ k ih => unfold byN; split <;> omega
set_option maxRecDepth 100000 in
theorem count (A : Option Addr) (b off n c : Nat) (x y z : Nat → Int) (w : World) (hn : n ≤ 1000000) (hs : ToksAt w A b off n x y z) :
    Calls Try.prog 10 #[.slice A n c] w fun e w' => e = .returned (.tuple #[.int .i64 (byN y n : Nat), .int .i64 ((n : Int) - (byN y n : Nat))]) ∧ Below w.heap.size w w' := by
  have HS := hid hs
  clear hs
  go_enter Try.func10, Try.ntmps10
  go_upto_region 3 with fail
  go_loopw [4, 9] (fun m i wr => ∃ k : Nat, k ≤ n ∧ m = .int .i64 (byN y k : Nat) ∧ i = .int .i64 k ∧ Below w.heap.size w wr) (fun _ i _ => n - (intOf i).toNat)
  case atStart => exact ⟨0, Nat.zero_le _, rfl, rfl, Below.refl _ _⟩
  case round =>
    obtain ⟨k, hk, rfl, rfl, hB⟩ := hrel
    have HB := hid hB
    have hll := byN_le y k
    clear hB
    by_cases hlt : k < n
    · obtain rfl := HS.out.ad (by omega)
      obtain ⟨c0, c1, c2⟩ := (HS.out.below HB.out).at_ k hlt
      have HK := hid (show byN y (k + 1) = if y k = 0 then byN y k + 1 else byN y k from rfl)
      generalize x k = s at *
      generalize y k = p at *
      generalize z k = m at *
      generalize byN y k = q at *
      by_cases h0 : p = 0
      · rw [if_pos h0] at HK
        subst h0
        go_wp2_with fail
        go_roundw
        case rel => exact ⟨k + 1, by omega, by rw [HK.out]; go_num, by go_num, HB.out.alloc HB.out.size _⟩
        case measure => simp [intOf]; omega
      · rw [if_neg h0] at HK
        have e0 : (p == 0) = false := by simpa using h0
        go_wp2_with fail
        go_roundw
        case rel => exact ⟨k + 1, by omega, by rw [HK.out], by go_num, HB.out.alloc HB.out.size _⟩
        case measure => simp [intOf]; omega
    · obtain rfl : k = n := by omega
      have w0 : IntKind.i64.wrap ((k : Int) - (byN y k : Int)) = (k : Int) - (byN y k : Int) := IntWalk.i64_in _ (by omega)
      go_wp2_with fail
      go_ret2
      exact ⟨rfl, HB.out⟩
end Lz
end Go.Proofs.Ytlhgkemiakekoaa
