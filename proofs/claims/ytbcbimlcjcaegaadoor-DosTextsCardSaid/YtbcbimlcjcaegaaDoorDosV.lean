/- DosSeconds: the walk. -/
import Derived.Test.YtbcbimlcjcaegaaDoorDosU
import Derived.Test.YtbcbimlcjcaegaaDoorDosQ
import Derived.Test.YtbcbimlcjcaegaaDoorDosR
namespace Go.Proofs.YtbcbimlcjcaegaaDoor
set_option linter.unusedVariables false
open Go.RowKit
open Go.Proofs.Dos
attribute [local go_sem ↓] Go.wp_at_zero Go.wp_at_succ

/-- The last time that there is. -/
def lastT : T := ⟨2107, 12, 31, 23, 59, 58⟩
theorem last_fits : Fits lastT := by decide
theorem last_secs : secsI lastT = 4039286398 := by decide +kernel

/-- A time's block, as it stays. -/
def Blk6 (W : World) (g : Nat) (x : T) : Prop := W.heap[g]? = some (.cells #[.int .i64 x.year, .int .i64 x.month, .int .i64 x.day, .int .i64 x.hour, .int .i64 x.minute, .int .i64 x.second] 24 (0, 0))
theorem Blk6.lt {W : World} {g : Nat} {x : T} (h : Blk6 W g x) : g < W.heap.size := (Array.getElem?_eq_some_iff.1 h).1
theorem Blk6.step {W W' : World} {g : Nat} {x : T} (h : Blk6 W g x) (hB : Below W.heap.size W W') : Blk6 W' g x := (hB.block g h.lt).trans h
theorem Blk6.alloc {W : World} {g : Nat} {x : T} (h : Blk6 W g x) (o : Obj) : Blk6 (W.alloc o) g x := (Below.heap_alloc W o g h.lt).trans h

theorem tup_ex (x : T) : ∃ (a : Int) (k : Bool), toldSecs x = .tuple #[.int .i64 a, .bool k] ∧ a = (if fitsB x then secsI x else 0) ∧ k = fitsB x := by
  cases hb : fitsB x
  · exact ⟨_, _, secs_no hb, rfl, rfl⟩
  · exact ⟨_, _, secs_yes hb, rfl, rfl⟩

set_option maxRecDepth 100000 in
set_option maxHeartbeats 8000000 in
theorem seconds_walk (t n : Int) (w : World) (hT : Tab w) (hP : Pow w) (h0 : 0 ≤ t) (h1 : t < 4294967296) (n0 : -9223372036854775808 ≤ n) (n1 : n ≤ 9223372036854775807) :
    Calls Tryd.prog 4 #[.int .u32 t, .int .i64 n] w fun e w' => e = .returned (.bool true) ∧ Below w.heap.size w w' := by
  have HS1 := hid (fun w hT => seconds t w hT h0 h1)
  have HS2 := hid (fun w => refSplit t w h0 h1)
  have HRR := hid (fun w => refRight (splitI t) w (split_ints h0 h1))
  have hrf := right_fits t
  rw [← hrf] at HRR
  clear hrf
  have HRS := hid (fun w (h : fitsB (splitI t) = true) => refSeconds (splitI t) w (fitsB_yes h))
  have HL := hid (fun w => refSeconds lastT w last_fits)
  rw [last_secs] at HL
  generalize splitI t = x at HS1 HS2 HRR HRS
  obtain ⟨a, k, hv, ha, hk⟩ := tup_ex x
  rw [hv] at HS1
  clear hv
  unfold tV at HS2 HRR HRS HL
  simp only [lastT] at HL
  subst hk
  cases hb : fitsB x
  · have ha0 : a = 0 := by rw [ha, hb]; rfl
    subst ha0
    rw [hb] at HS1 HRR
    clear ha hb HRS
    by_cases hn : n < 0
    · go_enter Tryd.func4, Tryd.ntmps4
      go_wp2_with fail
      refine (HS1.out _ hT).mono ?_
      rintro e w1 ⟨rfl, hB1⟩
      have HB1 := hid hB1; clear hB1
      go_wp2_with fail
      refine (HS2.out _).mono ?_
      rintro e w2 ⟨rfl, hB2⟩
      have HB2 := hid (HB1.out.trans (hB2.mono HB1.out.size)); clear hB2 HB1
      have HB3 := hid (HB2.out.alloc HB2.out.size (.cells #[.int .i64 x.year, .int .i64 x.month, .int .i64 x.day, .int .i64 x.hour, .int .i64 x.minute, .int .i64 x.second] 24))
      have HK := hid (show Blk6 _ _ x from heap_alloc_new w2 (.cells #[.int .i64 x.year, .int .i64 x.month, .int .i64 x.day, .int .i64 x.hour, .int .i64 x.minute, .int .i64 x.second] 24))
      clear HB2
      go_wp2_with fail
      refine (HRR.out _).mono ?_
      rintro e w3 ⟨rfl, hB4⟩
      have HB4 := hid (HB3.out.trans (hB4.mono HB3.out.size))
      have HK4 := hid (HK.out.step hB4)
      clear hB4 HB3 HK
      obtain ⟨c0, c1, c2, c3, c4, c5⟩ := six_ HK4.out
      go_wp2_with fail
      have HB5 := hid HB4.out
      have HK5 := hid HK4.out
      clear HB4 HK4
      refine (from_no n _ hn n0).mono ?_
      rintro e w5 ⟨rfl, rfl⟩
      have HB6 := hid HB5.out
      have HK6 := hid HK5.out
      clear HB5 HK5
      go_wp2_with fail
      refine (HL.out _).mono ?_
      rintro e w6 ⟨rfl, hB7⟩
      have HB7 := hid (HB6.out.trans (hB7.mono HB6.out.size))
      have HK7 := hid (HK6.out.step hB7)
      clear hB7 HB6 HK6 c0 c1 c2 c3 c4 c5
      obtain ⟨c0, c1, c2, c3, c4, c5⟩ := six_ HK7.out
      go_wp2_with fail
      refine (HRR.out _).mono ?_
      rintro e w7 ⟨rfl, hB⟩
      have HB8 := hid (HB7.out.trans (hB.mono HB7.out.size))
      have HK8 := hid (HK7.out.step hB)
      clear hB HB7 HK7
      go_wp2_with fail
      refine (lives _ (hT.step HB8.out) (hP.step HB8.out)).mono ?_
      rintro e w9 ⟨rfl, hB⟩
      have HBZ := hid (HB8.out.trans (hB.mono HB8.out.size))
      clear hB
      go_wp2_with fail
      go_ret
      exact ⟨rfl, HBZ.out⟩
    by_cases hn2 : n > 4039286399
    · go_enter Tryd.func4, Tryd.ntmps4
      go_wp2_with fail
      refine (HS1.out _ hT).mono ?_
      rintro e w1 ⟨rfl, hB1⟩
      have HB1 := hid hB1; clear hB1
      go_wp2_with fail
      refine (HS2.out _).mono ?_
      rintro e w2 ⟨rfl, hB2⟩
      have HB2 := hid (HB1.out.trans (hB2.mono HB1.out.size)); clear hB2 HB1
      have HB3 := hid (HB2.out.alloc HB2.out.size (.cells #[.int .i64 x.year, .int .i64 x.month, .int .i64 x.day, .int .i64 x.hour, .int .i64 x.minute, .int .i64 x.second] 24))
      have HK := hid (show Blk6 _ _ x from heap_alloc_new w2 (.cells #[.int .i64 x.year, .int .i64 x.month, .int .i64 x.day, .int .i64 x.hour, .int .i64 x.minute, .int .i64 x.second] 24))
      clear HB2
      go_wp2_with fail
      refine (HRR.out _).mono ?_
      rintro e w3 ⟨rfl, hB4⟩
      have HB4 := hid (HB3.out.trans (hB4.mono HB3.out.size))
      have HK4 := hid (HK.out.step hB4)
      clear hB4 HB3 HK
      obtain ⟨c0, c1, c2, c3, c4, c5⟩ := six_ HK4.out
      go_wp2_with fail
      have HB5 := hid HB4.out
      have HK5 := hid HK4.out
      clear HB4 HK4
      refine (from_ n _ (hT.step HB5.out) (by omega) n1).mono ?_
      rintro e w5 ⟨⟨v, rfl, hv⟩, hB6⟩
      obtain rfl := hv.no (.inr (by omega))
      clear hv
      have HB6 := hid (HB5.out.trans (hB6.mono HB5.out.size))
      have HK6 := hid (HK5.out.step hB6)
      clear hB6 HB5 HK5 c0 c1 c2 c3 c4 c5
      obtain ⟨c0, c1, c2, c3, c4, c5⟩ := six_ HK6.out
      go_wp2_with fail
      refine (HL.out _).mono ?_
      rintro e w6 ⟨rfl, hB7⟩
      have HB7 := hid (HB6.out.trans (hB7.mono HB6.out.size))
      have HK7 := hid (HK6.out.step hB7)
      clear hB7 HB6 HK6 c0 c1 c2 c3 c4 c5
      obtain ⟨c0, c1, c2, c3, c4, c5⟩ := six_ HK7.out
      go_wp2_with fail
      refine (HRR.out _).mono ?_
      rintro e w7 ⟨rfl, hB⟩
      have HB8 := hid (HB7.out.trans (hB.mono HB7.out.size))
      have HK8 := hid (HK7.out.step hB)
      clear hB HB7 HK7
      go_wp2_with fail
      refine (lives _ (hT.step HB8.out) (hP.step HB8.out)).mono ?_
      rintro e w9 ⟨rfl, hB⟩
      have HBZ := hid (HB8.out.trans (hB.mono HB8.out.size))
      clear hB
      go_wp2_with fail
      go_ret
      exact ⟨rfl, HBZ.out⟩
    go_enter Tryd.func4, Tryd.ntmps4
    go_wp2_with fail
    refine (HS1.out _ hT).mono ?_
    rintro e w1 ⟨rfl, hB1⟩
    have HB1 := hid hB1; clear hB1
    go_wp2_with fail
    refine (HS2.out _).mono ?_
    rintro e w2 ⟨rfl, hB2⟩
    have HB2 := hid (HB1.out.trans (hB2.mono HB1.out.size)); clear hB2 HB1
    have HB3 := hid (HB2.out.alloc HB2.out.size (.cells #[.int .i64 x.year, .int .i64 x.month, .int .i64 x.day, .int .i64 x.hour, .int .i64 x.minute, .int .i64 x.second] 24))
    have HK := hid (show Blk6 _ _ x from heap_alloc_new w2 (.cells #[.int .i64 x.year, .int .i64 x.month, .int .i64 x.day, .int .i64 x.hour, .int .i64 x.minute, .int .i64 x.second] 24))
    clear HB2
    go_wp2_with fail
    refine (HRR.out _).mono ?_
    rintro e w3 ⟨rfl, hB4⟩
    have HB4 := hid (HB3.out.trans (hB4.mono HB3.out.size))
    have HK4 := hid (HK.out.step hB4)
    clear hB4 HB3 HK
    obtain ⟨c0, c1, c2, c3, c4, c5⟩ := six_ HK4.out
    go_wp2_with fail
    have HB5 := hid HB4.out
    have HK5 := hid HK4.out
    clear HB4 HK4
    refine (from_ n _ (hT.step HB5.out) (by omega) n1).mono ?_
    rintro e w5 ⟨⟨v, rfl, hv⟩, hB6⟩
    obtain ⟨y, hy, hs, rfl⟩ := hv.yes (by omega) (by omega)
    have HB6 := hid (HB5.out.trans (hB6.mono HB5.out.size))
    have HK6 := hid (HK5.out.step hB6)
    clear hB6 HB5 HK5 c0 c1 c2 c3 c4 c5
    obtain ⟨c0, c1, c2, c3, c4, c5⟩ := six_ HK6.out
    have HO := hid (fun w => refSplit (ofI y) w (ofI_bd hy).1 (ofI_bd hy).2)
    rw [split_of hy] at HO
    have HY := hid (fun w => refRight y w ⟨by have := hy.1.month; omega, by have := hy.1.month; omega, by have := hy.1.month; omega, by have := hy.1.month; omega, by have := hy.1.month; have := hy.1.1; omega, by have := hy.1.month; omega, by have := hy.1; obtain ⟨_, _, r3, r4, r5, r6, r7, r8⟩ := this; omega, by have := hy.1; obtain ⟨_, _, r3, r4, r5, r6, r7, r8⟩ := this; omega, by have := hy.1; obtain ⟨_, _, r3, r4, r5, r6, r7, r8⟩ := this; omega, by have := hy.1; obtain ⟨_, _, r3, r4, r5, r6, r7, r8⟩ := this; omega, by have := hy.1; obtain ⟨_, _, r3, r4, r5, r6, r7, r8⟩ := this; omega, by have := hy.1; obtain ⟨_, _, r3, r4, r5, r6, r7, r8⟩ := this; omega⟩)
    rw [show decide (RightT y) = true from decide_eq_true hy] at HY
    have HZ := hid (fun w => refSeconds y w hy.1)
    rw [hs] at HZ
    have hob := ofI_bd hy
    clear hv hs hy
    unfold tV at HO HY HZ
    generalize ofI y = b at HO hob ⊢
    go_wp2_with fail
    refine (HL.out _).mono ?_
    rintro e w6 ⟨rfl, hB7⟩
    have HB7 := hid (HB6.out.trans (hB7.mono HB6.out.size))
    have HK7 := hid (HK6.out.step hB7)
    clear hB7 HB6 HK6 c0 c1 c2 c3 c4 c5
    obtain ⟨c0, c1, c2, c3, c4, c5⟩ := six_ HK7.out
    go_wp2_with fail
    refine (HO.out _).mono ?_
    rintro e w7 ⟨rfl, hB⟩
    have HB8 := hid ((HB7.out.trans (hB.mono HB7.out.size)).alloc (HB7.out.trans (hB.mono HB7.out.size)).size (.cells #[.int .i64 y.year, .int .i64 y.month, .int .i64 y.day, .int .i64 y.hour, .int .i64 y.minute, .int .i64 y.second] 24))
    have HK8 := hid ((HK7.out.step hB).alloc (.cells #[.int .i64 y.year, .int .i64 y.month, .int .i64 y.day, .int .i64 y.hour, .int .i64 y.minute, .int .i64 y.second] 24))
    have HY8 := hid (show Blk6 _ _ y from heap_alloc_new w7 (.cells #[.int .i64 y.year, .int .i64 y.month, .int .i64 y.day, .int .i64 y.hour, .int .i64 y.minute, .int .i64 y.second] 24))
    clear hB HB7 HK7 c0 c1 c2 c3 c4 c5
    obtain ⟨c0, c1, c2, c3, c4, c5⟩ := six_ HK8.out
    go_wp2_with fail
    refine (HRR.out _).mono ?_
    rintro e w8 ⟨rfl, hB⟩
    have HB9 := hid (HB8.out.trans (hB.mono HB8.out.size))
    have HK9 := hid (HK8.out.step hB)
    have HY9 := hid (HY8.out.step hB)
    clear hB HB8 HK8 HY8 c0 c1 c2 c3 c4 c5
    obtain ⟨d0, d1, d2, d3, d4, d5⟩ := six_ HY9.out
    go_wp2_with fail
    refine (HY.out _).mono ?_
    rintro e w10 ⟨rfl, hB⟩
    have HB10 := hid (HB9.out.trans (hB.mono HB9.out.size))
    have HY10 := hid (HY9.out.step hB)
    clear hB HB9 HK9 HY9 d0 d1 d2 d3 d4 d5
    obtain ⟨d0, d1, d2, d3, d4, d5⟩ := six_ HY10.out
    go_wp2_with fail
    refine (HZ.out _).mono ?_
    rintro e w11 ⟨rfl, hB⟩
    have HB11 := hid (HB10.out.trans (hB.mono HB10.out.size))
    clear hB HB10 HY10 d0 d1 d2 d3 d4 d5
    go_wp2_with fail
    refine (lives _ (hT.step HB11.out) (hP.step HB11.out)).mono ?_
    rintro e w9 ⟨rfl, hB⟩
    have HBZ := hid (HB11.out.trans (hB.mono HB11.out.size))
    clear hB
    go_wp2_with fail
    go_ret
    exact ⟨rfl, HBZ.out⟩
  · have ha0 : a = secsI x := by rw [ha, hb]; rfl
    have HQ := hid (fun w => HRS.out w hb)
    rw [← ha0] at HQ
    rw [hb] at HS1 HRR
    clear ha0 ha hb HRS
    by_cases hn : n < 0
    · go_enter Tryd.func4, Tryd.ntmps4
      go_wp2_with fail
      refine (HS1.out _ hT).mono ?_
      rintro e w1 ⟨rfl, hB1⟩
      have HB1 := hid hB1; clear hB1
      go_wp2_with fail
      refine (HS2.out _).mono ?_
      rintro e w2 ⟨rfl, hB2⟩
      have HB2 := hid (HB1.out.trans (hB2.mono HB1.out.size)); clear hB2 HB1
      have HB3 := hid (HB2.out.alloc HB2.out.size (.cells #[.int .i64 x.year, .int .i64 x.month, .int .i64 x.day, .int .i64 x.hour, .int .i64 x.minute, .int .i64 x.second] 24))
      have HK := hid (show Blk6 _ _ x from heap_alloc_new w2 (.cells #[.int .i64 x.year, .int .i64 x.month, .int .i64 x.day, .int .i64 x.hour, .int .i64 x.minute, .int .i64 x.second] 24))
      clear HB2
      go_wp2_with fail
      refine (HRR.out _).mono ?_
      rintro e w3 ⟨rfl, hB4⟩
      have HB4 := hid (HB3.out.trans (hB4.mono HB3.out.size))
      have HK4 := hid (HK.out.step hB4)
      clear hB4 HB3 HK
      obtain ⟨c0, c1, c2, c3, c4, c5⟩ := six_ HK4.out
      go_wp2_with fail
      refine (HQ.out _).mono ?_
      rintro e w4 ⟨rfl, hB5⟩
      have HB5 := hid (HB4.out.trans (hB5.mono HB4.out.size))
      have HK5 := hid (HK4.out.step hB5)
      clear hB5 HB4 HK4 c0 c1 c2 c3 c4 c5
      obtain ⟨c0, c1, c2, c3, c4, c5⟩ := six_ HK5.out
      go_wp2_with fail
      refine (from_no n _ hn n0).mono ?_
      rintro e w5 ⟨rfl, rfl⟩
      have HB6 := hid HB5.out
      have HK6 := hid HK5.out
      clear HB5 HK5
      go_wp2_with fail
      refine (HL.out _).mono ?_
      rintro e w6 ⟨rfl, hB7⟩
      have HB7 := hid (HB6.out.trans (hB7.mono HB6.out.size))
      have HK7 := hid (HK6.out.step hB7)
      clear hB7 HB6 HK6 c0 c1 c2 c3 c4 c5
      obtain ⟨c0, c1, c2, c3, c4, c5⟩ := six_ HK7.out
      go_wp2_with fail
      refine (HRR.out _).mono ?_
      rintro e w7 ⟨rfl, hB⟩
      have HB8 := hid (HB7.out.trans (hB.mono HB7.out.size))
      have HK8 := hid (HK7.out.step hB)
      clear hB HB7 HK7
      go_wp2_with fail
      refine (lives _ (hT.step HB8.out) (hP.step HB8.out)).mono ?_
      rintro e w9 ⟨rfl, hB⟩
      have HBZ := hid (HB8.out.trans (hB.mono HB8.out.size))
      clear hB
      go_wp2_with fail
      go_ret
      exact ⟨rfl, HBZ.out⟩
    by_cases hn2 : n > 4039286399
    · go_enter Tryd.func4, Tryd.ntmps4
      go_wp2_with fail
      refine (HS1.out _ hT).mono ?_
      rintro e w1 ⟨rfl, hB1⟩
      have HB1 := hid hB1; clear hB1
      go_wp2_with fail
      refine (HS2.out _).mono ?_
      rintro e w2 ⟨rfl, hB2⟩
      have HB2 := hid (HB1.out.trans (hB2.mono HB1.out.size)); clear hB2 HB1
      have HB3 := hid (HB2.out.alloc HB2.out.size (.cells #[.int .i64 x.year, .int .i64 x.month, .int .i64 x.day, .int .i64 x.hour, .int .i64 x.minute, .int .i64 x.second] 24))
      have HK := hid (show Blk6 _ _ x from heap_alloc_new w2 (.cells #[.int .i64 x.year, .int .i64 x.month, .int .i64 x.day, .int .i64 x.hour, .int .i64 x.minute, .int .i64 x.second] 24))
      clear HB2
      go_wp2_with fail
      refine (HRR.out _).mono ?_
      rintro e w3 ⟨rfl, hB4⟩
      have HB4 := hid (HB3.out.trans (hB4.mono HB3.out.size))
      have HK4 := hid (HK.out.step hB4)
      clear hB4 HB3 HK
      obtain ⟨c0, c1, c2, c3, c4, c5⟩ := six_ HK4.out
      go_wp2_with fail
      refine (HQ.out _).mono ?_
      rintro e w4 ⟨rfl, hB5⟩
      have HB5 := hid (HB4.out.trans (hB5.mono HB4.out.size))
      have HK5 := hid (HK4.out.step hB5)
      clear hB5 HB4 HK4 c0 c1 c2 c3 c4 c5
      obtain ⟨c0, c1, c2, c3, c4, c5⟩ := six_ HK5.out
      go_wp2_with fail
      refine (from_ n _ (hT.step HB5.out) (by omega) n1).mono ?_
      rintro e w5 ⟨⟨v, rfl, hv⟩, hB6⟩
      obtain rfl := hv.no (.inr (by omega))
      clear hv
      have HB6 := hid (HB5.out.trans (hB6.mono HB5.out.size))
      have HK6 := hid (HK5.out.step hB6)
      clear hB6 HB5 HK5 c0 c1 c2 c3 c4 c5
      obtain ⟨c0, c1, c2, c3, c4, c5⟩ := six_ HK6.out
      go_wp2_with fail
      refine (HL.out _).mono ?_
      rintro e w6 ⟨rfl, hB7⟩
      have HB7 := hid (HB6.out.trans (hB7.mono HB6.out.size))
      have HK7 := hid (HK6.out.step hB7)
      clear hB7 HB6 HK6 c0 c1 c2 c3 c4 c5
      obtain ⟨c0, c1, c2, c3, c4, c5⟩ := six_ HK7.out
      go_wp2_with fail
      refine (HRR.out _).mono ?_
      rintro e w7 ⟨rfl, hB⟩
      have HB8 := hid (HB7.out.trans (hB.mono HB7.out.size))
      have HK8 := hid (HK7.out.step hB)
      clear hB HB7 HK7
      go_wp2_with fail
      refine (lives _ (hT.step HB8.out) (hP.step HB8.out)).mono ?_
      rintro e w9 ⟨rfl, hB⟩
      have HBZ := hid (HB8.out.trans (hB.mono HB8.out.size))
      clear hB
      go_wp2_with fail
      go_ret
      exact ⟨rfl, HBZ.out⟩
    go_enter Tryd.func4, Tryd.ntmps4
    go_wp2_with fail
    refine (HS1.out _ hT).mono ?_
    rintro e w1 ⟨rfl, hB1⟩
    have HB1 := hid hB1; clear hB1
    go_wp2_with fail
    refine (HS2.out _).mono ?_
    rintro e w2 ⟨rfl, hB2⟩
    have HB2 := hid (HB1.out.trans (hB2.mono HB1.out.size)); clear hB2 HB1
    have HB3 := hid (HB2.out.alloc HB2.out.size (.cells #[.int .i64 x.year, .int .i64 x.month, .int .i64 x.day, .int .i64 x.hour, .int .i64 x.minute, .int .i64 x.second] 24))
    have HK := hid (show Blk6 _ _ x from heap_alloc_new w2 (.cells #[.int .i64 x.year, .int .i64 x.month, .int .i64 x.day, .int .i64 x.hour, .int .i64 x.minute, .int .i64 x.second] 24))
    clear HB2
    go_wp2_with fail
    refine (HRR.out _).mono ?_
    rintro e w3 ⟨rfl, hB4⟩
    have HB4 := hid (HB3.out.trans (hB4.mono HB3.out.size))
    have HK4 := hid (HK.out.step hB4)
    clear hB4 HB3 HK
    obtain ⟨c0, c1, c2, c3, c4, c5⟩ := six_ HK4.out
    go_wp2_with fail
    refine (HQ.out _).mono ?_
    rintro e w4 ⟨rfl, hB5⟩
    have HB5 := hid (HB4.out.trans (hB5.mono HB4.out.size))
    have HK5 := hid (HK4.out.step hB5)
    clear hB5 HB4 HK4 c0 c1 c2 c3 c4 c5
    obtain ⟨c0, c1, c2, c3, c4, c5⟩ := six_ HK5.out
    go_wp2_with fail
    refine (from_ n _ (hT.step HB5.out) (by omega) n1).mono ?_
    rintro e w5 ⟨⟨v, rfl, hv⟩, hB6⟩
    obtain ⟨y, hy, hs, rfl⟩ := hv.yes (by omega) (by omega)
    have HB6 := hid (HB5.out.trans (hB6.mono HB5.out.size))
    have HK6 := hid (HK5.out.step hB6)
    clear hB6 HB5 HK5 c0 c1 c2 c3 c4 c5
    obtain ⟨c0, c1, c2, c3, c4, c5⟩ := six_ HK6.out
    have HO := hid (fun w => refSplit (ofI y) w (ofI_bd hy).1 (ofI_bd hy).2)
    rw [split_of hy] at HO
    have HY := hid (fun w => refRight y w ⟨by have := hy.1.month; omega, by have := hy.1.month; omega, by have := hy.1.month; omega, by have := hy.1.month; omega, by have := hy.1.month; have := hy.1.1; omega, by have := hy.1.month; omega, by have := hy.1; obtain ⟨_, _, r3, r4, r5, r6, r7, r8⟩ := this; omega, by have := hy.1; obtain ⟨_, _, r3, r4, r5, r6, r7, r8⟩ := this; omega, by have := hy.1; obtain ⟨_, _, r3, r4, r5, r6, r7, r8⟩ := this; omega, by have := hy.1; obtain ⟨_, _, r3, r4, r5, r6, r7, r8⟩ := this; omega, by have := hy.1; obtain ⟨_, _, r3, r4, r5, r6, r7, r8⟩ := this; omega, by have := hy.1; obtain ⟨_, _, r3, r4, r5, r6, r7, r8⟩ := this; omega⟩)
    rw [show decide (RightT y) = true from decide_eq_true hy] at HY
    have HZ := hid (fun w => refSeconds y w hy.1)
    rw [hs] at HZ
    have hob := ofI_bd hy
    clear hv hs hy
    unfold tV at HO HY HZ
    generalize ofI y = b at HO hob ⊢
    go_wp2_with fail
    refine (HL.out _).mono ?_
    rintro e w6 ⟨rfl, hB7⟩
    have HB7 := hid (HB6.out.trans (hB7.mono HB6.out.size))
    have HK7 := hid (HK6.out.step hB7)
    clear hB7 HB6 HK6 c0 c1 c2 c3 c4 c5
    obtain ⟨c0, c1, c2, c3, c4, c5⟩ := six_ HK7.out
    go_wp2_with fail
    refine (HO.out _).mono ?_
    rintro e w7 ⟨rfl, hB⟩
    have HB8 := hid ((HB7.out.trans (hB.mono HB7.out.size)).alloc (HB7.out.trans (hB.mono HB7.out.size)).size (.cells #[.int .i64 y.year, .int .i64 y.month, .int .i64 y.day, .int .i64 y.hour, .int .i64 y.minute, .int .i64 y.second] 24))
    have HK8 := hid ((HK7.out.step hB).alloc (.cells #[.int .i64 y.year, .int .i64 y.month, .int .i64 y.day, .int .i64 y.hour, .int .i64 y.minute, .int .i64 y.second] 24))
    have HY8 := hid (show Blk6 _ _ y from heap_alloc_new w7 (.cells #[.int .i64 y.year, .int .i64 y.month, .int .i64 y.day, .int .i64 y.hour, .int .i64 y.minute, .int .i64 y.second] 24))
    clear hB HB7 HK7 c0 c1 c2 c3 c4 c5
    obtain ⟨c0, c1, c2, c3, c4, c5⟩ := six_ HK8.out
    go_wp2_with fail
    refine (HRR.out _).mono ?_
    rintro e w8 ⟨rfl, hB⟩
    have HB9 := hid (HB8.out.trans (hB.mono HB8.out.size))
    have HK9 := hid (HK8.out.step hB)
    have HY9 := hid (HY8.out.step hB)
    clear hB HB8 HK8 HY8 c0 c1 c2 c3 c4 c5
    obtain ⟨d0, d1, d2, d3, d4, d5⟩ := six_ HY9.out
    go_wp2_with fail
    refine (HY.out _).mono ?_
    rintro e w10 ⟨rfl, hB⟩
    have HB10 := hid (HB9.out.trans (hB.mono HB9.out.size))
    have HY10 := hid (HY9.out.step hB)
    clear hB HB9 HK9 HY9 d0 d1 d2 d3 d4 d5
    obtain ⟨d0, d1, d2, d3, d4, d5⟩ := six_ HY10.out
    go_wp2_with fail
    refine (HZ.out _).mono ?_
    rintro e w11 ⟨rfl, hB⟩
    have HB11 := hid (HB10.out.trans (hB.mono HB10.out.size))
    clear hB HB10 HY10 d0 d1 d2 d3 d4 d5
    go_wp2_with fail
    refine (lives _ (hT.step HB11.out) (hP.step HB11.out)).mono ?_
    rintro e w9 ⟨rfl, hB⟩
    have HBZ := hid (HB11.out.trans (hB.mono HB11.out.size))
    clear hB
    go_wp2_with fail
    go_ret
    exact ⟨rfl, HBZ.out⟩
end Go.Proofs.YtbcbimlcjcaegaaDoor
