/- RunsBack: the law's walk. -/
import Derived.Test.YtdjlkacmaflhfaaRunF
import Derived.Test.YtdjlkacmaflhfaaRunN
namespace Go.Proofs.Ytdjlkacmaflhfaa
set_option linter.unusedVariables false
open Go.RowKit
open Go.Proofs.Runs
attribute [local go_sem ↓] Go.wp_at_zero Go.wp_at_succ
namespace Run
theorem own_next {w W w1 : World} {B : Nat} {v v' : Value} {o : List Int} {q : Int} {ob : Obj} (ho : Own W B v o) (hb : Below B w W) (hB : B ≤ W.heap.size)
    (h : w1.ownsRow B 3 1 v' (o.length + 1) (ints o ++ [.int .i64 q])) (hg : (W.alloc ob).grownBy w1 v.ownBlock) :
    Own w1 B v' (o ++ [q]) ∧ Below B w w1 := by
  refine ⟨?_, (hb.alloc hB ob).grown hg (by simp; omega) (fun k hk => (ho.lt k hk).1)⟩
  unfold Own
  rw [show ints (o ++ [q]) = ints o ++ [.int .i64 q] by simp [ints], show (o ++ [q]).length = o.length + 1 by simp]
  exact h
theorem takeT_succ (x : Nat → Int) (n : Nat) : takeT x (n + 1) = takeT x n ++ [x n] := by simp [takeT, List.range_succ]
theorem Own.row {w : World} {B n : Nat} {v : Value} {x : Nat → Int} (h : Own w B v (takeT x n)) : ∃ (A : Option Addr) (cap g : Nat), v = .slice A n cap ∧ Ints w A g 0 n x := by
  obtain ⟨A, cap, g, hv, hc⟩ := h.form
  rw [takeT_len] at hv hc
  refine ⟨A, cap, g, hv, fun h0 => (hc 0 h0).1, fun h0 => ?_, fun i hi => ?_⟩
  · have := World.block_lt_of_cell? _ _ (hc 0 h0).2
    simpa using this
  · rw [Nat.zero_add, (hc i hi).2, takeT_at x hi]
/-- Numbers without a sign that lie in a row. -/
structure Uints (W : World) (A : Option Addr) (b off len : Nat) (m : Nat → Nat) : Prop where
  ad : 0 < len → A = some ⟨b, off, none⟩
  lt : 0 < len → b < W.heap.size
  at_ : ∀ i, i < len → W.cell? ⟨b, off + i, none⟩ = some (.int .u64 (m i : Nat))
theorem Uints.below {W W' : World} {A : Option Addr} {b off len : Nat} {x : Nat → Nat} (h : Uints W A b off len x) (hb : Below W.heap.size W W') : Uints W' A b off len x :=
  ⟨h.ad, fun hl => Nat.lt_of_lt_of_le (h.lt hl) hb.size, fun i hi => (hb.cell (p := ⟨b, off + i, none⟩) (h.lt (by omega))).trans (h.at_ i hi)⟩
def modT (m : Nat → Nat) (i : Nat) : Int := ((m i % 16 : Nat) : Int)

set_option maxRecDepth 100000 in
set_option maxHeartbeats 4000000 in
theorem backs (A : Option Addr) (b off n c : Nat) (m : Nat → Nat) (w : World) (hn : n ≤ 9223372036854775807) (hx : Uints w A b off n m) :
    Calls Try.prog 9 #[.slice A n c] w fun e w' => e = .returned (.bool true) ∧ Below w.heap.size w w' := by
  have HX := hid hx
  clear hx
  obtain ⟨i0, hi, hz0, hz1, hz2⟩ := info_parts info3
  have HI := hid hi
  clear hi
  by_cases h400 : 400 < (n : Int)
  · go_enter Try.func9, Try.ntmps9
    go_wp2_with fail
    refine (lives _).mono ?_
    rintro e w1 ⟨rfl, b1⟩
    go_wp2_with fail
    go_ret
    exact ⟨rfl, b1⟩
  · have hn4 : n ≤ 400 := by omega
    have HF : Hid (Fine (modT m) n) := hid ⟨hn4, fun i _ => by unfold modT; omega⟩
    go_enter Try.func9, Try.ntmps9
    go_upto_region 5 with fail
    go_loopw [3, 16] (fun l i wr => ∃ k : Nat, k ≤ n ∧ i = .int .i64 k ∧ Own wr w.heap.size l (takeT (modT m) k) ∧ Below w.heap.size w wr) (fun _ i _ => n - (intOf i).toNat)
    case atStart => exact ⟨0, Nat.zero_le _, rfl, World.ownsRow_nil _ _ _ _, Below.refl _ _⟩
    case round =>
      obtain ⟨k, hk, rfl, hown, hB⟩ := hrel
      have HO := hid hown
      have HB := hid hB
      clear hown hB
      by_cases hlt : k < n
      · have hA := HX.out.ad (by omega)
        subst hA
        have c0 := (HX.out.below HB.out).at_ k hlt
        have hz := HB.out.size
        have hlen := takeT_len (modT m) k
        have HK := hid (takeT_succ (modT m) k)
        have e1 : ((m k : Nat) : Int) % 16 = modT m k := by unfold modT; omega
        have e2 : ((m k : Nat) : Int).tmod 16 = modT m k := by rw [Int.tmod_eq_emod_of_nonneg (by omega)]; exact e1
        have e3 : IntKind.i64.wrap (modT m k) = modT m k := IntWalk.i64_in _ (by unfold modT; omega)
        have e4 : IntKind.u64.wrap (modT m k) = modT m k := IntWalk.u64_in _ (by unfold modT; omega)
        have ⟨e5, e6⟩ : 0 ≤ modT m k ∧ modT m k < 16 := by unfold modT; omega
        generalize modT m k = q at *
        generalize m k = mk at *
        go_wp2_with (at_builtin; refine wpList_append_own _ rfl _ _ 40 rfl w.heap.size 3 i0 (.int .i64 0) 1 8 und40 HI.out hz0 hz1 hz2 rfl (by decide) _ _ _ rfl (HO.out.alloc _) _ 1 1 [.int .i64 q] rfl rfl (World.news_of_block (heap_alloc_new _ _)) (by simp [Value.oneCell']) (by simp [maxLen, hlen]; omega) (by rw [hlen]; omega) (by simp only [World.alloc, Array.size_push]; omega) ?_; intro v' w8 hown8 hgrow8 _; have R := hid (own_next HO.out HB.out hz hown8 hgrow8); clear hown8 hgrow8)
        try (go_wp2_with fail)
        go_roundw
        case rel => exact ⟨k + 1, by omega, by go_num, by rw [HK.out]; exact R.out.1, R.out.2⟩
        case measure => simp [intOf]; omega
      · obtain rfl : k = n := by omega
        obtain ⟨A4, cap4, g4, hv4, hx4⟩ := HO.out.row
        subst hv4
        have HX4 := hid hx4
        clear hx4
        have HOB := hid (of_back HF.out)
        have HOL := hid (of_le (modT m) k)
        go_wp2_with fail
        refine (of_yes A4 g4 0 k cap4 (modT m) _ HF.out HX4.out).mono ?_
        rintro e w1 ⟨⟨v, rfl, ho1⟩, b1⟩
        have HB1 := hid (HB.out.trans (b1.mono HB.out.size))
        have HX5 := hid (HX4.out.below b1)
        obtain ⟨A5, cap5, g5, rfl, hA5, hs5⟩ := ho1.form
        have HC := hid (back A5 g5 0 _ cap5 _ _ _ w1 (by have := HOL.out; omega) hA5 hs5)
        rw [HOB.out] at HC
        have hL := HOL.out
        generalize (ofT (modT m) k).length = L at HC hL ⊢
        clear hA5 hs5 ho1 b1
        go_wp2_with fail
        refine HC.out.mono ?_
        rintro e w2 ⟨hp2, b2⟩
        obtain ⟨v2, rfl, ho2⟩ := hp2
        have HB2 := hid (HB1.out.trans (b2.mono HB1.out.size))
        have HX6 := hid (HX5.out.below b2)
        obtain ⟨A6, cap6, g6, rfl, hx6⟩ := Own.row ho2
        have HX7 := hid hx6
        clear hx6 ho2 b2
        have hL2 : ¬ (k : Int) < (L : Int) := by omega
        go_wp2_with fail
        go_loopw [52] (fun i wr => ∃ j q : Nat, j ≤ k ∧ i = .int .i64 j ∧ wr = w2.drewN q) (fun i _ => k - (intOf i).toNat)
        case atStart => exact ⟨0, 0, Nat.zero_le _, rfl, rfl⟩
        case round =>
          obtain ⟨j, q, hj, rfl, rfl⟩ := hrel
          by_cases hjl : j < k
          · obtain rfl := HX7.out.ad (by omega)
            obtain rfl := HX6.out.ad (by omega)
            have d5 := HX7.out.at_ j hjl
            have d6 := HX6.out.at_ j hjl
            rw [Nat.zero_add] at d5 d6
            generalize modT m j = t at *
            have hji : (j : Int) < (k : Int) := by omega
            have hj0 : (0 : Int) ≤ (j : Int) := by omega
            go_upto_region 16 with fail
            go_quiet (fail)
            go_wp2_with fail
            go_roundw
            case rel => exact ⟨j + 1, _, by omega, by go_num, rfl⟩
            case measure => simp [intOf]; omega
          · go_wp2_with fail
            refine (lives _).mono ?_
            rintro e w3 ⟨rfl, b3⟩
            go_wp2_with fail
            go_ret
            exact ⟨rfl, (below_drewN HB2.out q).trans (b3.mono HB2.out.size)⟩
end Run
end Go.Proofs.Ytdjlkacmaflhfaa
