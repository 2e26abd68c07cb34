/- RunsReads: the law's walk. -/
import Derived.Test.YtdjlkacmaflhfaaRunF
namespace Go.Proofs.Ytdjlkacmaflhfaa
set_option linter.unusedVariables false
open Go.RowKit
open Go.Proofs.Runs
attribute [local go_sem ↓] Go.wp_at_zero Go.wp_at_succ
namespace Run
def takeS (x y z : Nat → Int) (n : Nat) : List S := (List.range n).map fun k => (x k, y k, z k)
theorem takeS_len (x y z : Nat → Int) (n : Nat) : (takeS x y z n).length = n := by simp [takeS]
theorem takeS_succ (x y z : Nat → Int) (n : Nat) : takeS x y z (n + 1) = takeS x y z n ++ [(x n, y n, z n)] := by simp [takeS, List.range_succ]
theorem takeS_at (x y z : Nat → Int) {n k : Nat} (h : k < n) : sx (takeS x y z n) k = x k ∧ sy (takeS x y z n) k = y k ∧ sz (takeS x y z n) k = z k := by
  simp [takeS, sx, sy, sz, h]
theorem ownS_next {w W w1 : World} {B T : Nat} {v v' : Value} {o : List S} {s : S} {ob1 ob2 : Obj} (ho : OwnS W B T v o) (hb : Below B w W) (hB : B ≤ W.heap.size)
    (h : w1.ownsRow B T 3 v' (o.length + 1) (cells3 o ++ [.int .i64 s.1, .int .i64 s.2.1, .int .i64 s.2.2])) (hg : ((W.alloc ob1).alloc ob2).grownBy w1 v.ownBlock) :
    OwnS w1 B T v' (o ++ [s]) ∧ Below B w w1 := by
  refine ⟨?_, ((hb.alloc hB ob1).alloc (by simp; omega) ob2).grown hg (by simp; omega) (fun k hk => (ho.lt k hk).1)⟩
  unfold OwnS
  rw [cells3_app, show (o ++ [s]).length = o.length + 1 by simp]
  exact h

set_option maxRecDepth 100000 in
set_option maxHeartbeats 4000000 in
theorem reads (A : Option Addr) (b off n c : Nat) (x y z : Nat → Int) (w : World) (hn : n ≤ 9223372036854775807) (hA : 0 < n → A = some ⟨b, off, none⟩) (hs : StepsAt w b off n x y z) :
    Calls Try.prog 8 #[.slice A n c] w fun e w' => e = .returned (.bool true) ∧ Below w.heap.size w w' := by
  have HS := hid hs
  have HA := hid hA
  clear hs hA
  obtain ⟨i0, hi, hz0, hz1, hz2⟩ := info_parts info48
  have HI := hid hi
  clear hi
  by_cases h60 : 60 < (n : Int)
  · go_enter Try.func8, Try.ntmps8
    go_wp2_with fail
    refine (lives _).mono ?_
    rintro e w1 ⟨rfl, b1⟩
    go_wp2_with fail
    go_ret
    exact ⟨rfl, b1⟩
  · have hn60 : n ≤ 60 := by omega
    go_enter Try.func8, Try.ntmps8
    go_upto_region 5 with fail
    go_loopw [3, 17] (fun l i wr => ∃ k : Nat, k ≤ n ∧ i = .int .i64 k ∧ OwnS wr w.heap.size 48 l (takeS x y z k) ∧ Below w.heap.size w wr) (fun _ i _ => n - (intOf i).toNat)
    case atStart => exact ⟨0, Nat.zero_le _, rfl, World.ownsRow_nil _ _ _ _, Below.refl _ _⟩
    case round =>
      obtain ⟨k, hk, rfl, hown, hB⟩ := hrel
      have HO := hid hown
      have HB := hid hB
      clear hown hB
      by_cases hlt : k < n
      · have hA := HA.out (by omega)
        subst hA
        obtain ⟨c0, c1, c2⟩ := (HS.out.below HB.out).at_ k hlt
        have hz := HB.out.size
        have hlen := takeS_len x y z k
        have HK := hid (takeS_succ x y z k)
        generalize x k = s at *
        generalize y k = p at *
        generalize z k = m at *
        go_wp2_with (at_builtin; (refine wpList_append_own _ rfl _ _ 41 rfl w.heap.size 48 i0 (.agg #[.int .i64 0, .int .i64 0, .int .i64 0]) 3 24 und41 HI.out hz0 hz1 hz2 rfl (by decide) _ _ _ rfl ((HO.out.alloc _).alloc _) _ 1 1 [.int .i64 s, .int .i64 p, .int .i64 m] rfl rfl (World.news_of_block (heap_alloc2_new _ _ _)) (by simp [Value.oneCell']) (by simp [maxLen, hlen]; omega) (by rw [hlen]; omega) (by simp only [World.alloc, Array.size_push]; omega) ?_; intro v' w8 hown8 hgrow8 _; have R := hid (ownS_next (s := (s, p, m)) HO.out HB.out hz hown8 hgrow8); clear hown8 hgrow8))
        go_wp2_with fail
        go_roundw
        case rel => exact ⟨k + 1, by omega, by go_num, by rw [HK.out]; exact R.out.1, R.out.2⟩
        case measure => simp [intOf]; omega
      · obtain rfl : k = n := by omega
        obtain ⟨A4, cap4, g4, hv4, hA4, hs4⟩ := HO.out.form
        rw [takeS_len] at hv4 hA4 hs4
        subst hv4
        have HC := hid (back A4 g4 0 k cap4 (sx (takeS x y z k)) (sy (takeS x y z k)) (sz (takeS x y z k)) wr (by omega) hA4 hs4)
        rw [rowT_congr (x' := x) (y' := y) (z' := z) k (fun j hj => takeS_at x y z hj)] at HC
        have HD := hid (fun W h => refBack A b off k c x y z W (by omega) HA.out h)
        clear hA4 hs4
        have HL := hid (rowT_len (x := x) (y := y) (z := z) k)
        generalize rowT x y z k = r at HC HD HL
        go_wp2_with fail
        refine HC.out.mono ?_
        rintro e w1 ⟨hp1, b1⟩
        have HB1 := hid (HB.out.trans (b1.mono HB.out.size))
        have HP1 := hid hp1
        clear b1 hp1
        cases r with
        | none =>
          obtain rfl := HP1.out
          go_wp2_with fail
          refine (HD.out _ (HS.out.below HB1.out)).mono ?_
          rintro e w2 ⟨hp2, b2⟩
          have HB2 := hid (HB1.out.trans (b2.mono HB1.out.size))
          have HP2 := hid hp2
          clear b2 hp2
          obtain rfl := HP2.out
          go_wp2_with fail
          go_loopw [48] (fun i wr => i = .int .i64 0 ∧ wr = w2) (fun _ _ => 0)
          case atStart => exact ⟨rfl, rfl⟩
          case round =>
            obtain ⟨rfl, rfl⟩ := hrel
            go_wp2_with fail
            refine (lives _).mono ?_
            rintro e w3 ⟨rfl, b3⟩
            go_wp2_with fail
            go_ret
            exact ⟨rfl, HB2.out.trans (b3.mono HB2.out.size)⟩
        | some o =>
          have hol := HL.out o rfl
          obtain ⟨v1, rfl, ho1⟩ := HP1.out
          have HO1 := hid ho1
          clear ho1
          go_wp2_with fail
          refine (HD.out _ (HS.out.below HB1.out)).mono ?_
          rintro e w2 ⟨hp2, b2⟩
          have HB2 := hid (HB1.out.trans (b2.mono HB1.out.size))
          obtain ⟨v2, rfl, ho2⟩ := hp2
          have HO2 := hid ho2
          have HO3 := hid (own_below HO1.out b2)
          clear b2 ho2
          obtain ⟨A5, cap5, g5, rfl, hc5⟩ := Own.form HO3.out
          obtain ⟨A6, cap6, g6, rfl, hc6⟩ := Own.form HO2.out
          have HC5 := hid hc5
          have HC6 := hid hc6
          clear hc5 hc6
          go_wp2_with fail
          go_loopw [48] (fun i wr => ∃ j q : Nat, j ≤ o.length ∧ i = .int .i64 j ∧ wr = w2.drewN q) (fun i _ => o.length - (intOf i).toNat)
          case atStart => exact ⟨0, 0, Nat.zero_le _, rfl, rfl⟩
          case round =>
            obtain ⟨j, q, hj, rfl, rfl⟩ := hrel
            by_cases hjl : j < o.length
            · obtain ⟨rfl, d5⟩ := HC5.out j hjl
              obtain ⟨rfl, d6⟩ := HC6.out j hjl
              generalize o.getD j 0 = t at *
              have hji : (j : Int) < (o.length : Int) := by omega
              have hj0 : (0 : Int) ≤ (j : Int) := by omega
              go_upto_region 16 with fail
              go_quiet (fail)
              go_wp2_with fail
              go_roundw
              case rel => exact ⟨j + 1, _, by omega, by go_num, rfl⟩
              case measure => simp [intOf]; omega
            · go_wp2_with fail
              refine (lives _).mono ?_
              rintro e w3 ⟨rfl, b3⟩
              go_wp2_with fail
              go_ret
              exact ⟨rfl, (below_drewN HB2.out q).trans (b3.mono HB2.out.size)⟩
end Run
end Go.Proofs.Ytdjlkacmaflhfaa
