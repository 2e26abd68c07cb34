/- INFLATE: rows of numbers: one again and again, copies, the order of the lengths of lengths. -/
import Derived.Test.YtlfohihmkfphhaaJnfU
import Derived.Deep.AppendLies
import Derived.Deep.RegionHeldLaw
import Derived.Laws.CopyOwn
import Derived.Lib.SliceRun
namespace Go.Proofs.Ytlfohihmkfphhaa
set_option linter.unusedVariables false
open Go.RowKit
open Go.Proofs.Huf
attribute [local go_sem ↓] Go.wp_at_zero Go.wp_at_succ
namespace Inf
open Huff
/-- A row of numbers that a call has made. -/
def OwnI (w : World) (B : Nat) (v : Value) (l : List Nat) : Prop := w.ownsRow B 3 1 v l.length (symV l)
theorem OwnI.form {w : World} {B : Nat} {v : Value} {o : List Nat} (h : OwnI w B v o) :
    ∃ (A : Option Addr) (cap g : Nat), v = .slice A o.length cap ∧ ∀ i, i < o.length → A = some ⟨g, 0, none⟩ ∧ g < w.heap.size ∧ w.cell? ⟨g, i, none⟩ = some (.int .i64 ((o.getD i 0 : Nat) : Int)) := by
  rcases h.2 with ⟨rfl, h0⟩ | ⟨g, cap, cur, rfl, _, hg, _⟩
  · exact ⟨none, 0, 0, by rw [h0], fun i hi => absurd hi (by omega)⟩
  · refine ⟨_, cap, g, rfl, fun i hi => ⟨rfl, (Array.getElem?_eq_some_iff.1 hg).1, ?_⟩⟩
    rw [World.ownsRow.cellAt h i (by omega)]
    simp [symV, hi]
theorem OwnI.kp {w w' : World} {B C : Nat} {v : Value} {l : List Nat} (h : OwnI w B v l) (k : Kp TP C w w') : OwnI w' B v l := by
  refine ⟨h.1, ?_⟩
  rcases h.2 with hn | ⟨g, cap, cur, e, hb, hg, h3⟩
  · exact .inl hn
  · exact .inr ⟨g, cap, cur, e, hb, k.keep _ _ _ _ hg (by decide), h3⟩
theorem OwnI.grow {w w' : World} {B : Nat} {v : Value} {l : List Nat} (h : OwnI w B v l) (b : Below w.heap.size w w') : OwnI w' B v l := by
  refine ⟨h.1, ?_⟩
  rcases h.2 with hn | ⟨g, cap, cur, e, hb, hg, h3⟩
  · exact .inl hn
  · exact .inr ⟨g, cap, cur, e, hb, (b.block g (Array.getElem?_eq_some_iff.1 hg).1).trans hg, h3⟩
set_option maxRecDepth 100000 in
set_option maxHeartbeats 400000 in
theorem mul64 (n : Nat) (hn : n ≤ 1000) (w : World) : Calls Try.prog 107 #[.int .u64 1, .int .u64 (n : Int)] w fun e w' => e = .returned (.tuple #[.int .u64 0, .int .u64 (n : Int)]) ∧ w = w' := by
  have hm : ∀ k : Nat, k ≤ 1000 → bits .and .u64 (k : Int) 4294967295 = (k : Int) := fun k hk => by
    have := bits_and_u64_nat k 4294967295 (by omega) (by omega)
    have e := Nat.and_two_pow_sub_one_eq_mod k 32
    rw [show (2 : Nat) ^ 32 - 1 = 4294967295 from rfl] at e
    rw [e, Nat.mod_eq_of_lt (by omega)] at this
    exact this
  have h1 : bits .and .u64 1 4294967295 = 1 := hm 1 (by omega)
  have h0 : bits .and .u64 0 4294967295 = 0 := hm 0 (by omega)
  have w0 : IntKind.u64.wrap 0 = 0 := by decide
  have w01 : IntKind.u64.wrap 1 = 1 := by decide
  have hnn := hm n hn
  have d1 : (n : Int) / 4294967296 = 0 := by omega
  have d2 : (n : Int) / 2 ^ 32 = 0 := by omega
  have w1 : IntKind.u64.wrap (n : Int) = (n : Int) := by rw [IntKind.wrap_u64]; omega
  clear hm
  go_enter Try.func107, Try.ntmps107
  go_wp2_with fail
  go_ret2
  exact ⟨rfl, rfl⟩
set_option maxRecDepth 100000 in
set_option maxHeartbeats 400000 in
theorem mul (n : Nat) (hn : n ≤ 1000) (w : World) : Calls Try.prog 103 #[.int .u64 1, .int .u64 (n : Int)] w fun e w' => e = .returned (.tuple #[.int .u64 0, .int .u64 (n : Int)]) ∧ w = w' := by
  have HM := hid (mul64 n hn)
  go_enter Try.func103, Try.ntmps103
  go_wp2_with fail
  refine (HM.out _).mono ?_
  rintro e w1 ⟨rfl, rfl⟩
  go_wp2_with fail
  go_ret2
  exact ⟨rfl, rfl⟩
/-- So many of one number, then noughts. -/
def repV (q n m : Nat) : List Value := List.replicate n (.int .i64 (q : Int)) ++ List.replicate m (.int .i64 0)
theorem repV_len (q n m : Nat) : (repV q n m).length = n + m := by simp [repV]
theorem repV_at (q n m j : Nat) (h : j < n) : (repV q n m)[j]? = some (.int .i64 (q : Int)) := by
  unfold repV
  rw [List.getElem?_append_left (by simpa using h)]
  simp [h]
theorem repV_splice (q n m k : Nat) (h : k ≤ m) : (repV q n m).take n ++ (List.replicate k (.int .i64 (q : Int)) ++ (repV q n m).drop (n + k)) = repV q (n + k) (m - k) := by
  unfold repV
  rw [List.take_left' (by simp), List.drop_append]
  simp [List.replicate_append_replicate, ← List.append_assoc]
theorem rep_src {W : World} {G q k d c : Nat} (h : W.heap[G]? = some (.cells (repV q k d).toArray 3 (0, 0))) (hc : c ≤ k) : ∀ j v, (List.replicate c (Value.int .i64 (q : Int)))[j]? = some v → W.drew.cell? ((⟨G, 0, none⟩ : Addr).add j) = some v := by
  intro j v hv
  have hj : j < c := by
    have := (List.getElem?_eq_some_iff.1 hv).1
    simpa using this
  have hadd : (⟨G, 0, none⟩ : Addr).add j = ⟨G, j, none⟩ := by unfold Addr.add; split <;> simp_all
  rw [hadd]
  show W.cell? _ = _
  rw [cell_of_row W G j _ 3 (0, 0) h, ← hv]
  have e := repV_at q k d j (by omega)
  simp only [List.getElem?_toArray, e]
  simp [hj]
theorem make_ints (n : Nat) (hn : n ≤ 1000) (w : World) : (Instr.makeSlice 22 (.int .i64 (n : Int)) (.int .i64 (n : Int))).run Try.prog w = .ok (.slice (some ⟨w.heap.size, 0, none⟩) n n) (w.alloc (.cells (List.replicate n (.int .i64 0)).toArray 3)) := by
  obtain ⟨i0, hi, hz0, hz1, hz2⟩ := info_parts infoI
  have h := run_make (P := Try.prog) w 22 3 i0 (.int .i64 0) und22' hi hz0 .i64 .i64 n n (by omega) (Int.le_refl _) (by rw [hz2]; omega) (by omega)
  rw [hz1, Int.toNat_natCast, Nat.mul_one] at h
  have e : madeCells #[.int .i64 0] n = (List.replicate n (Value.int .i64 0)).toArray := by
    apply Array.toList_inj.1
    rw [toList_madeCells_one]
  rw [← e]
  exact h
set_option maxRecDepth 100000 in
set_option maxHeartbeats 600000 in
/-- One number, so many times. -/
theorem repeatS (q n g cap : Nat) (hn0 : 1 ≤ n) (hn : n ≤ 200) (w : World) (hc : w.cell? ⟨g, 0, none⟩ = some (.int .i64 (q : Int))) (hg : g < w.heap.size) :
    Calls Try.prog 92 #[.slice (some ⟨g, 0, none⟩) 1 cap, .int .i64 (n : Int)] w fun e w' => (∃ G, w.heap.size ≤ G ∧ e = .returned (.slice (some ⟨G, 0, none⟩) n n) ∧ w'.heap[G]? = some (.cells (repV q n 0).toArray 3 (0, 0))) ∧ Below w.heap.size w w' := by
  have HM := hid (mul n (by omega))
  have w1 : IntKind.u64.wrap (n : Int) = (n : Int) := by rw [IntKind.wrap_u64]; omega
  have w2 : IntKind.i64.wrap (n : Int) = (n : Int) := by rw [IntKind.wrap_i64]; omega
  have g1 : ¬ (n : Int) < 0 := by omega
  have g2 : ¬ (9223372036854775807 : Int) < (n : Int) := by omega
  have HC := hid hc
  have hmk := make_ints n (by omega) w
  have hsz3 : (Try.prog.info? 3).map (·.size) = some 1 := by kernel_rfl
  clear hc
  go_enter Try.func92, Try.ntmps92
  go_wp2_with fail
  refine (HM.out _).mono ?_
  rintro e w3 ⟨rfl, rfl⟩
  go_upto_region 7 with fail
  have hz := heap_alloc_new w (.cells (List.replicate n (.int .i64 0)).toArray 3)
  have hsrc : ∀ j v, [Value.int .i64 (q : Int)][j]? = some v → (w.alloc (.cells (List.replicate n (.int .i64 0)).toArray 3)).cell? ((⟨g, 0, none⟩ : Addr).add j) = some v := by
    intro j v hv
    cases j with
    | zero =>
      simp at hv
      subst hv
      exact (World.cell?_alloc_past _ _ _ hg).trans HC.out
    | succ j => simp at hv
  go_wp2_with (refine wpList_copy_splice rfl _ _ 22 22 rfl 3 und22' hsz3 (some ⟨w.heap.size, 0, none⟩) (some ⟨g, 0, none⟩) n n 1 cap rfl rfl w.heap.size 0 (List.replicate n (.int .i64 0)) 3 hz [.int .i64 (q : Int)] (by simp [Nat.min_def]; omega) (fun _ => ⟨rfl, _, rfl, hsrc⟩) (by simp; omega) (by simp [Value.oneCell']) w.heap.size w ((Below.refl _ _).alloc (Nat.le_refl _) _) (Nat.le_refl _) ?_; intro w4 h4 b4)
  have H4 := hid (show w4.heap[w.heap.size]? = some (.cells (repV q 1 (n - 1)).toArray 3 (0, 0)) from by
    have h := h4.out
    have e : splice (List.replicate n (Value.int .i64 0)) 0 [.int .i64 (q : Int)] = repV q 1 (n - 1) := by simp [splice, repV]
    rw [e] at h
    exact h)
  have HB4 := hid b4
  clear h4 b4 hz hsrc hmk w1 w2
  go_loopw [8] (fun i wr => ∃ k : Nat, 1 ≤ k ∧ k ≤ n ∧ i = .int .i64 (k : Int) ∧ wr.heap[w.heap.size]? = some (.cells (repV q k (n - k)).toArray 3 (0, 0)) ∧ Below w.heap.size w wr) (fun i _ => n - (intOf i).toNat)
  case atStart => exact ⟨1, Nat.le_refl _, hn0, rfl, H4.out, HB4.out⟩
  case round =>
    obtain ⟨k, hk0, hk, rfl, hrow, hB⟩ := hrel
    have HR := hid hrow
    have HB := hid hB
    clear hrow hB
    by_cases hlt : k < n
    · obtain ⟨d, hd⟩ : ∃ d : Nat, n - k = d := ⟨_, rfl⟩
      obtain ⟨c, hcd⟩ : ∃ c : Nat, c = Nat.min k d := ⟨_, rfl⟩
      have hc2 : c ≤ d ∧ c ≤ k ∧ 1 ≤ c := by rw [hcd]; simp [Nat.min_def]; split <;> omega
      rw [hd] at HR
      have hkn : (k : Int) ≤ (n : Int) := by omega
      have hk0' : (0 : Int) ≤ (k : Int) := by omega
      have hd' : (n : Int) - (k : Int) = (d : Int) := by omega
      have w5 : IntKind.i64.wrap ((k : Int) + (c : Int)) = ((k + c : Nat) : Int) := by rw [IntKind.wrap_i64]; omega
      have hne : ¬ n = k := by omega
      have HCD := hid hcd
      have HC2 := hid hc2
      have HD := hid hd
      clear hcd hc2
      go_upto_region 9 with fail
      go_region_law ((refine step_copy_splice (by rfl) (.tmp 41) (.tmp 44) 22 22 (by rfl) 3 und22' hsz3 (some ⟨w.heap.size, k, none⟩) (some ⟨w.heap.size, 0, none⟩) d d k n (by simp [go_sem]) (by simp [go_sem]) w.heap.size k (repV q k d) 3 HR.out (List.replicate c (.int .i64 (q : Int))) (by rw [List.length_replicate]; exact HCD.out) (fun _ => ⟨rfl, _, rfl, rep_src HR.out HC2.out.2.1⟩) (by rw [repV_len]; simp; have := HC2.out; omega) (by intro v hv; rw [List.eq_of_mem_replicate hv]; rfl) w.heap.size w HB.out.drew (Nat.le_refl _) ?_; intro w7 h7 b7))
      all_goals go_wp2_with fail
      all_goals go_roundw
      case rel =>
        refine ⟨.int .i64 ((k + c : Nat) : Int), .int .i64 (k : Int), .slice (some ⟨w.heap.size, 0, none⟩) n n, .int .i64 (n : Int), .bool true, .int .i64 (k : Int), .slice (some ⟨w.heap.size, 0, none⟩) n n, .int .i64 (k : Int), .slice (some ⟨w.heap.size, k, none⟩) d d, .slice (some ⟨w.heap.size, 0, none⟩) n n, .int .i64 (k : Int), .slice (some ⟨w.heap.size, 0, none⟩) k n, .int .i64 (c : Int), .int .i64 ((k + c : Nat) : Int), ⟨k + c, by omega, by have := HC2.out; omega, rfl, ?_, b7⟩, ?_⟩
        · have h := h7.out
          unfold splice at h
          rw [List.length_replicate, repV_splice q k d c HC2.out.1] at h
          rw [show n - (k + c) = d - c by omega]
          exact h
        · simp [go_sem]
      case measure => 
        have h3 : IntKind.i64.wrap ((k : Int) + (c : Int)) = (k : Int) + (c : Int) := by omega
        have h1 := HC2.out
        simp [intOf, go_sem]
        omega
    · obtain rfl : k = n := by omega
      go_wp2_with fail
      go_ret
      rw [Nat.sub_self] at HR
      exact ⟨⟨_, Nat.le_refl _, rfl, HR.out⟩, HB.out⟩
end Inf
end Go.Proofs.Ytlfohihmkfphhaa
