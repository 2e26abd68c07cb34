/- INFLATE: InflateEnds's walk: bytes behind the last block change nothing; a byte less is an end; less room is too long; more is the same. -/
import Derived.Test.YtlfohihmkfphhaaJnfO
import Derived.Test.YtlfohihmkfphhaaJnfP
namespace Go.Proofs.Ytlfohihmkfphhaa
set_option linter.unusedVariables false
open Go.RowKit
open Go.Proofs.Huf
attribute [local go_sem ↓] Go.wp_at_zero Go.wp_at_succ
namespace Inf
open Huff
theorem ofEx (w : World) : Calls Try.prog 19 #[.string ⟨#[3, 0]⟩, .int .i64 10] w fun e w' => e = .returned (.tuple #[.string ⟨#[]⟩, .int .i64 2, .int .i64 0]) ∧ Below w.heap.size w w' := by
  have h := ofW ⟨#[3, 0]⟩ 10 10 100 w (by decide) (by decide) (by decide)
  have e : infl ⟨#[3, 0]⟩ 10 100 = .ok [] 10 := ex_bits 100 (by omega)
  rw [e] at h
  exact h
set_option maxRecDepth 100000 in
set_option maxHeartbeats 2000000 in
theorem lives (w : World) : Calls Try.prog 21 #[] w fun e w' => e = .returned (.bool true) ∧ Below w.heap.size w w' := by
  have H0 := hid (fun W => ofEx W)
  go_enter Try.func21, Try.ntmps21
  go_wp2_with fail
  refine (H0.out _).mono ?_
  rintro e w1 ⟨rfl, b1⟩
  have B1 := hid b1
  clear b1
  go_wp2_with fail
  refine (orderW _).mono ?_
  rintro e w2 ⟨rfl, h2⟩
  have B2 := hid (show Below w.heap.size w w2 from by rw [h2]; exact B1.out.alloc B1.out.size _)
  clear h2
  go_wp2_with fail
  go_ret
  exact ⟨rfl, B2.out⟩
/-- What the law speaks of. -/
structure Ends (s : ByteArray) (o : List UInt8) (q n : Nat) : Prop where
  one : 1 ≤ n
  here : n ≤ s.size
  room : o.length ≤ 2000
  more : ∀ (t : ByteArray) x m, t.data.toList = s.data.toList.take n ++ x → o.length ≤ m → infl t m 3000 = .ok o q
  same : ∀ m, o.length ≤ m → infl s m 3000 = .ok o q
  less : ∀ (t : ByteArray) k, k < n → t.data.toList = s.data.toList.take k → infl t 2000 3000 = .bad 3
  long : ∀ m, m < o.length → infl s m 3000 = .bad 4
theorem ends {s : ByteArray} {o : List UInt8} {q n : Nat} (hn : n = (q + 7) / 8) (h : infl s 2000 3000 = .ok o q) : Ends s o q n := by
  have h8 : 8 ∣ 8 * s.size := ⟨s.size, rfl⟩
  have hb : blocksF 2000 3000 3000 [] (numS s) (8 * s.size) 0 = .ok o q := h
  obtain ⟨q0, q1⟩ := blocks_three 2000 3000 3000 [] (numS s) (8 * s.size) 0 o q h8 (Nat.zero_le _) hb
  have hsz : s.data.toList.length = s.size := Array.length_toList
  have hns : n ≤ s.data.toList.length := by omega
  refine ⟨by omega, by omega, infl_room hb, ?_, ?_, ?_, ?_⟩
  · intro t x m ht hm
    have ht2 : t.size = n + x.length := by
      have : t.size = t.data.toList.length := Array.length_toList.symm
      rw [this, ht]; simp; omega
    refine infl_more h8 hb (by rw [ht2]; omega) ?_ hm
    unfold numS
    rw [ht]
    exact mod_le (numL_mod s.data.toList x n hns).symm (by omega)
  · exact fun m hm => infl_more h8 hb (by omega) rfl hm
  · intro t k hk ht
    have ht2 : t.size = k := by
      have : t.size = t.data.toList.length := Array.length_toList.symm
      rw [this, ht]; simp; omega
    refine infl_cut h8 ⟨t.size, rfl⟩ hb (by rw [ht2]; omega) ?_
    unfold numS
    rw [ht2, ht]
    have := numL_mod s.data.toList [] k (by omega)
    rw [List.append_nil] at this
    exact this.symm
  · exact fun m hm => infl_less hb hm
theorem ext_list (s : ByteArray) (n : Nat) : (s.extract 0 n).data.toList = s.data.toList.take n := by simp
theorem ext_app (s t : ByteArray) (n : Nat) : (s.extract 0 n ++ t).data.toList = s.data.toList.take n ++ t.data.toList := by simp
set_option maxRecDepth 100000 in
set_option maxHeartbeats 4000000 in
theorem endsL (s0 t0 : ByteArray) (ls : Int) (w : World) (hs0 : s0.size ≤ 9223372036854775807) (ht0 : t0.size ≤ 9223372036854775807) (hn0 : 0 ≤ ls) (hn1 : ls ≤ 18446744073709551615) :
    Calls Try.prog 8 #[.string s0, .string t0, .int .u64 ls] w fun e w' => e = .returned (.bool true) ∧ Below w.heap.size w w' := by
  go_enter Try.func8, Try.ntmps8
  go_upto_region 1 with fail
  go_cut [0, 1] (fun a b wx => ∃ s t : ByteArray, s.size ≤ 200 ∧ t.size ≤ 20 ∧ a = .string s ∧ b = .string t ∧ Below w.heap.size w wx)
  case first =>
    go_quiet (fail)
    go_wp2_with fail
    all_goals go_meet
    all_goals exact ⟨_, _, by first | (rw [ByteArray.size_extract]; omega) | omega, by first | (rw [ByteArray.size_extract]; omega) | omega, rfl, rfl, by first | exact Below.refl _ _ | (exact ⟨rfl, rfl, rfl, Nat.le_refl _, fun _ _ => rfl⟩)⟩
  case rest =>
    obtain ⟨s, t, hs, ht, rfl, rfl, hwx⟩ := hcut
    have B0 := hid hwx
    clear hs0 ht0 hwx
    have HS := hid hs
    have HT := hid ht
    have C1 := hid (fun W => ofW s 2000 2000 3000 W (by omega) (by decide) (by omega))
    cases hr : infl s 2000 3000 with
    | bad f =>
      simp only [hr] at C1
      have hcf : ((codeOf f : Int) != 0) = true := by
        unfold codeOf
        split
        · rfl
        · split <;> rfl
      simp only [ofV] at C1
      generalize codeOf f = cf at *
      go_wp2_with fail
      refine (C1.out _).mono ?_
      rintro e w1 ⟨rfl, b1⟩
      have B1 := hid (B0.out.trans (b1.mono B0.out.size))
      clear b1
      go_wp2_with fail
      refine (lives _).mono ?_
      rintro e w2 ⟨rfl, b2⟩
      have B2 := hid (B1.out.trans (b2.mono B1.out.size))
      clear b2
      go_wp2_with fail
      go_ret
      exact ⟨rfl, B2.out⟩
    | ok o q =>
      simp only [hr] at C1
      obtain ⟨n, hn⟩ : ∃ n, n = (q + 7) / 8 := ⟨_, rfl⟩
      have HE := hid (ends hn hr)
      have hV : ofV (.ok o q) = .tuple #[.string ⟨o.toArray⟩, .int .i64 (n : Int), .int .i64 0] := by rw [hn]; rfl
      have HV := hid hV
      simp only [hV] at C1
      obtain ⟨a, hA⟩ : ∃ a : ByteArray, a = ⟨o.toArray⟩ := ⟨_, rfl⟩
      simp only [← hA] at C1
      have has : a.size = o.length := by rw [hA]; simp [ByteArray.size]
      have HA := hid hA
      have HAS := hid has
      have e1 : 1 ≤ n := HE.out.one
      have e2 : n ≤ s.size := HE.out.here
      have e3 : a.size ≤ 2000 := by rw [has]; exact HE.out.room
      have g1 : ¬ (n : Int) < 1 := by omega
      have g2 : ¬ (s.size : Int) < (n : Int) := by omega
      have g3 : ¬ (2000 : Int) < (a.size : Int) := by omega
      clear hr hn hV hA has
      go_wp2_with fail
      refine (C1.out _).mono ?_
      rintro e w1 ⟨rfl, b1⟩
      have B1 := hid (B0.out.trans (b1.mono B0.out.size))
      clear b1
      go_wp2_with fail
      obtain ⟨m1, hm1⟩ : ∃ m1 : Nat, (m1 : Int) = 2000 + ls % 100 := ⟨(2000 + ls % 100).toNat, by omega⟩
      have C2 := hid (fun W => ofW (s.extract 0 n ++ t) (2000 + ls % 100) m1 3000 W (by rw [ByteArray.size_append, ByteArray.size_extract]; omega) (by omega) (by rw [ByteArray.size_append, ByteArray.size_extract]; omega))
      have C2r := HE.out.more (s.extract 0 n ++ t) t.data.toList m1 (ext_app s t n) (by have := HE.out.room; omega)
      simp only [C2r, HV.out, ← HA.out] at C2
      clear C2r hm1
      refine (C2.out _).mono ?_
      rintro e w2 ⟨rfl, b2⟩
      have B2 := hid (B1.out.trans (b2.mono B1.out.size))
      clear b2
      obtain ⟨k, hk⟩ : ∃ k : Nat, ls % (n : Int) = (k : Int) := ⟨(ls % (n : Int)).toNat, by have := Int.emod_nonneg ls (show (n : Int) ≠ 0 by omega); omega⟩
      have hkn : k < n := by have := Int.emod_lt_of_pos ls (show (0 : Int) < n by omega); omega
      have f1 : IntKind.u64.wrap (n : Int) = (n : Int) := IntWalk.u64_in _ (by omega)
      have f2 : ls.tmod (n : Int) = (k : Int) := by rw [Int.tmod_eq_emod_of_nonneg hn0, hk]
      have f3 : IntKind.u64.wrap (k : Int) = (k : Int) := IntWalk.u64_in _ (by omega)
      have f4 : IntKind.i64.wrap (k : Int) = (k : Int) := IntWalk.i64_in _ (by omega)
      have f5 : (n : Int) ≠ 0 := by omega
      have f6 : (k : Int) ≤ (s.size : Int) := by omega
      clear C1 C2
      go_wp2_with fail
      have C3 := hid (fun W => ofW (s.extract 0 k) 2000 2000 3000 W (by rw [ByteArray.size_extract]; omega) (by decide) (by rw [ByteArray.size_extract]; omega))
      have C3r := HE.out.less (s.extract 0 k) k hkn (ext_list s k)
      have hb3 : ofV (.bad 3) = .tuple #[.string ⟨#[]⟩, .int .i64 0, .int .i64 3] := rfl
      have hb4 : ofV (.bad 4) = .tuple #[.string ⟨#[]⟩, .int .i64 0, .int .i64 4] := rfl
      simp only [C3r, hb3] at C3
      clear C3r
      refine (C3.out _).mono ?_
      rintro e w3 ⟨rfl, b3⟩
      have B3 := hid (B2.out.trans (b3.mono B2.out.size))
      clear b3 f1 f2 f3 f4 f5 f6 hkn hk C3
      have C4 := hid (fun W => ofW s (a.size : Int) a.size 3000 W (by omega) (by omega) (by omega))
      have C4r := HE.out.same a.size (by have := HAS.out; omega)
      simp only [C4r, HV.out, ← HA.out] at C4
      clear C4r
      go_wp2_with fail
      refine (C4.out _).mono ?_
      rintro e w4 ⟨rfl, b4⟩
      have B4 := hid (B3.out.trans (b4.mono B3.out.size))
      clear b4 C4
      by_cases ha : 0 < a.size
      · have hai : (0 : Int) < (a.size : Int) := by omega
        obtain ⟨j, hj⟩ : ∃ j : Nat, ls % (a.size : Int) = (j : Int) := ⟨(ls % (a.size : Int)).toNat, by have := Int.emod_nonneg ls (show (a.size : Int) ≠ 0 by omega); omega⟩
        have hjn : j < a.size := by have := Int.emod_lt_of_pos ls (show (0 : Int) < a.size by omega); omega
        have f1 : IntKind.u64.wrap (a.size : Int) = (a.size : Int) := IntWalk.u64_in _ (by omega)
        have f2 : ls.tmod (a.size : Int) = (j : Int) := by rw [Int.tmod_eq_emod_of_nonneg hn0, hj]
        have f3 : IntKind.u64.wrap (j : Int) = (j : Int) := IntWalk.u64_in _ (by omega)
        have f4 : IntKind.i64.wrap (j : Int) = (j : Int) := IntWalk.i64_in _ (by omega)
        have f5 : (a.size : Int) ≠ 0 := by omega
        have C5 := hid (fun W => ofW s (j : Int) j 3000 W (by omega) (by omega) (by omega))
        have C5r := HE.out.long j (by have := HAS.out; omega)
        simp only [C5r, hb4] at C5
        clear C5r hjn
        go_wp2_with fail
        refine (C5.out _).mono ?_
        rintro e w5 ⟨rfl, b5⟩
        have B5 := hid (B4.out.trans (b5.mono B4.out.size))
        clear b5 C5
        go_wp2_with fail
        refine (lives _).mono ?_
        rintro e w6 ⟨rfl, b6⟩
        have B6 := hid (B5.out.trans (b6.mono B5.out.size))
        clear b6
        go_wp2_with fail
        go_ret
        exact ⟨rfl, B6.out⟩
      · have hai : ¬ (0 : Int) < (a.size : Int) := by omega
        go_wp2_with fail
        refine (lives _).mono ?_
        rintro e w6 ⟨rfl, b6⟩
        have B6 := hid (B4.out.trans (b6.mono B4.out.size))
        clear b6
        go_wp2_with fail
        go_ret
        exact ⟨rfl, B6.out⟩
end Inf
end Go.Proofs.Ytlfohihmkfphhaa
