/- Commit: the walk of the reader on a mark's sector; the document's example. -/
import Derived.Test.YthgjijjalfhhcabDoorCoD
namespace Go.Proofs.YthgjijjalfhhcabDoor
set_option linter.unusedVariables false
open Go.RowKit
open Go.Proofs.Num
attribute [local go_sem ↓] Go.wp_at_zero Go.wp_at_succ
namespace Com
open Fld

theorem ret_int {k : IntKind} {a b : Int} (h : a = b) : Ending.returned (.int k a) = .returned (.int k b) := by rw [h]
theorem results_cell_tmp {P : Program} {fn : Func} {p q : Tmp} {ty : TypeId} (h : fn.results = #[.cell p ty, .tmp q]) (tmps : Array Value) (w : World) (g : Nat) (t : TypeId) (cs : Array Value) (fr : Nat × Nat) (d : TypeDesc)
    (hp : tmps.getD p undef = .pointer (some ⟨g, 0, none⟩)) (v : Value) (hq : tmps.getD q undef = v) (hg : w.heap[g]? = some (.cells cs t fr))
    (hu : P.underlying ty = some d) (hd : (match d with | .struct _ | .array _ _ => true | _ => false) = true) (hi : (P.info? ty).map (·.size) = some cs.size) :
    (results fn tmps).run P w = .ok (.tuple #[.agg cs, v]) w := by
  have hp' : tmps[p]?.getD undef = .pointer (some ⟨g, 0, none⟩) := by simpa using hp
  have hq' : tmps[q]?.getD undef = v := by simpa using hq
  simp [results, h, hp', hq', asAddr, run_loadVar_row w g t ty cs fr d hg hu hd hi]

set_option maxRecDepth 100000 in
set_option maxHeartbeats 2000000 in
theorem readMark (t l : Nat) (hok : Ok t l) (w : World) : Calls Tryd.prog 6 #[.string (markB t l)] w fun e w' => e = .returned (.tuple #[markV t l, .bool true]) ∧ Below w.heap.size w w' := by
  have HR := hid (fun W => right t l hok W)
  have ht : t ≤ 1099511627776 := hok.t1
  have hl : l ≤ 1099511627776 := by have := hok.l1; omega
  have HS := hid (fun W => sealed t l W ht hl)
  have hz := mark_size t l
  have M0 := hid (mark_magic t l)
  have M1 := hid (mark_turn t l ht)
  have M2 := hid (mark_long t l hl)
  have M3 := hid (mark_sum t l)
  have M4 := hid (mark_rest t l)
  have hS := (sum_eq t l).2
  have HN := hid (r0_new w (markB t l))
  have HNEQ := hid (fun W => neq44 (t : Int) (l : Int) (sumN t l : Int) W)
  clear hok
  generalize markB t l = s at *
  generalize sumN t l = S at *
  have hz2 : s.size ≤ 9223372036854775807 := by omega
  have G1 := hid (fun W => get_yes (s.extract 8 s.size) 8 W (by simp; omega) (by omega) (by simp; omega))
  have G2 := hid (fun W => get_yes (s.extract 16 s.size) 8 W (by simp; omega) (by omega) (by simp; omega))
  have G3 := hid (fun W => get_yes (s.extract 24 s.size) 4 W (by simp; omega) (by omega) (by simp; omega))
  rw [M1.out] at G1
  rw [M2.out] at G2
  rw [M3.out] at G3
  have HZ := hid hz2
  have h512 : (s.size : Int) = 512 := by omega
  have t0 : (t : Int) ≤ 1099511627776 := by omega
  have l0 : (l : Int) ≤ 1099511627776 := by omega
  have e1 : IntKind.i64.wrap (t : Int) = (t : Int) := IntWalk.i64_in _ (by omega)
  have e2 : IntKind.i64.wrap (l : Int) = (l : Int) := IntWalk.i64_in _ (by omega)
  have e3 : IntKind.u32.wrap (S : Int) = (S : Int) := by rw [IntKind.wrap_u32]; omega
  have HSZ := hid hz
  clear hz hz2 M1 M2 M3
  go_enter Tryd.func6, Tryd.ntmps6
  go_wp2_with fail
  refine (read _ _).mono ?_
  rintro e w1 ⟨rfl, rfl⟩
  go_upto_region 4 with fail
  generalize (w.alloc (.cells #[.int .i64 0, .int .i64 0] 24)).alloc (.cells #[.string s, .int .i64 0, .bool false] 69) = W1 at HN ⊢
  go_wp2_with fail
  refine (text_yes _ s 0 8 _ HN.out.rd (by have := HSZ.out; omega) HZ.out).mono ?_
  rw [M0.out]
  rintro e w2 ⟨rfl, hl2⟩
  have HN2 := hid (HN.out.go hl2)
  clear hl2
  go_upto_region 5 with fail
  have K0 := hid (r1_new HN2.out (.string magicB) (.int .i64 0) (.int .i64 0) (.int .u32 0))
  clear HN HN2
  generalize w2.alloc (.cells #[.string magicB, .int .i64 0, .int .i64 0, .int .u32 0] 43) = W2 at K0 ⊢
  generalize w2.heap.size = X at K0 ⊢
  go_wp2_with fail
  refine (num_yes _ s 8 8 (t : Int) _ K0.out.r0.rd (by have := HSZ.out; omega) HZ.out G1.out).mono ?_
  rintro e w3 ⟨rfl, hl3⟩
  have K1 := hid (K0.out.go hl3)
  clear hl3
  go_wp2_with fail
  refine (num_yes _ s 16 8 (l : Int) _ K1.out.r0.rd (by have := HSZ.out; omega) HZ.out G2.out).mono ?_
  rintro e w4 ⟨rfl, hl4⟩
  have K2 := hid (K1.out.go hl4)
  clear hl4 K0 K1
  obtain ⟨a0, a1, a2, a3⟩ := four_cells K2.out.box
  have f1 := frozen_of_row w4 X 1 _ _ K2.out.box
  have f2 := frozen_of_row w4 X 2 _ _ K2.out.box
  go_upto_region 6 with fail
  have K3 := hid (K2.out.mark (.int .i64 (t : Int)) (.int .i64 (l : Int)))
  clear K2 a0 a1 a2 a3 f1 f2
  generalize (w4.setCell ⟨X, 1, none⟩ (.int .i64 (t : Int))).setCell ⟨X, 2, none⟩ (.int .i64 (l : Int)) = W4 at K3 ⊢
  go_wp2_with fail
  refine (num_yes _ s 24 4 (S : Int) _ K3.out.r0.rd (by have := HSZ.out; omega) HZ.out G3.out).mono ?_
  rintro e w5 ⟨rfl, hl5⟩
  have K4 := hid (K3.out.go hl5)
  clear hl5 K3
  obtain ⟨a0, a1, a2, a3⟩ := four_cells K4.out.box
  have f3 := frozen_of_row w5 X 3 _ _ K4.out.box
  go_upto_region 7 with fail
  have K5 := hid (K4.out.sum (.int .u32 (S : Int)))
  clear K4 a0 a1 a2 a3 f3
  generalize w5.setCell ⟨X, 3, none⟩ (.int .u32 (S : Int)) = W5 at K5 ⊢
  go_wp2_with fail
  refine (left _ s 28 false _ K5.out.r0.rd (by have := HSZ.out; omega) HZ.out).mono ?_
  rintro e w6 ⟨n6, rfl, rfl⟩
  have K6 := hid (K5.out.drewN n6)
  clear K5
  generalize W5.drewN n6 = W6 at K6 ⊢
  have h484 : (s.size : Int) - ((28 : Nat) : Int) = ((484 : Nat) : Int) := by omega
  rw [h484]
  go_wp2_with fail
  refine (text_yes _ s 28 484 _ K6.out.r0.rd (by have := HSZ.out; omega) HZ.out).mono ?_
  rw [M4.out]
  rintro e w7 ⟨rfl, hl7⟩
  have K7 := hid (K6.out.go hl7)
  clear hl7 K6
  go_upto_region 8 with fail
  have c0 := hid (four_cells K7.out.box)
  have hneq := HNEQ.out
  have HT := hid trim0
  generalize zeros 484 = Z at HT ⊢
  go_region_held3 (fun W' => W'.cell? ⟨X, 0, none⟩ = some (.string magicB) ∧ W'.cell? ⟨X, 1, none⟩ = some (.int .i64 (t : Int)) ∧ W'.cell? ⟨X, 2, none⟩ = some (.int .i64 (l : Int)) ∧ W'.cell? ⟨X, 3, none⟩ = some (.int .u32 (S : Int)))
    (first | exact c0.out | exact four_cells K10.out.box | exact four_cells K9.out.box | exact four_cells K8.out.box | go_keep)
    (first
      | (have tok := K9.out; clear tok; go_at_call 27; refine (HT.out _).mono ?_; rintro e w10 ⟨rfl, h⟩; have K10 := hid (K9.out.step h); clear h)
      | (have tok := K8.out; clear tok; go_at_call 17; refine (HS.out _).mono ?_; rintro e w9 ⟨rfl, h⟩; have K9 := hid (K8.out.step h); clear h)
      | (go_at_call 16; refine (HR.out _).mono ?_; rintro e w8 ⟨rfl, h⟩; have K8 := hid (by first | exact K7.out.drew.step h | exact K7.out.step h); clear h))
  clear HT hneq HNEQ c0 HR HS
  go_upto_region 10 with fail
  obtain ⟨a0, a1, a2, a3⟩ := four_cells K10.out.box
  obtain ⟨r0, r1⟩ := two_cells K10.out.r0.res
  have f0 := frozen_of_row w10 w.heap.size 0 _ _ K10.out.r0.res
  have f1 := frozen_of_row w10 w.heap.size 1 _ _ K10.out.r0.res
  go_wp2_with fail
  exact bodyPost_ret (results_cell_tmp (fn := Tryd.f6) Tryd.results6 _ _ w.heap.size 24 _ (0, 0) _ rfl (.bool true) rfl (heap_setCell_same _ w.heap.size 1 _ 24 _ (heap_setCell_same _ w.heap.size 0 _ 24 _ K10.out.r0.res)) Tryd.underlying24 rfl size24) rfl
    ⟨rfl, (K10.out.r0.below.setCell (p := ⟨w.heap.size, 0, none⟩) (Nat.le_refl _) _).setCell (p := ⟨w.heap.size, 1, none⟩) (Nat.le_refl _) _⟩

/-- How many sectors. -/
def secI (n : Int) : Int := (min (max n 0) 1099511627776 + 511) / 512
set_option maxRecDepth 100000 in
theorem sectors (n : Int) (w : World) : Calls Tryd.prog 28 #[.int .i64 n] w fun e w' => e = .returned (.int .i64 (secI n)) ∧ w = w' := by
  go_enter Tryd.func28, Tryd.ntmps28
  go_wp2_with fail
  all_goals go_ret
  all_goals exact ⟨ret_int (by unfold secI; omega), rfl⟩

set_option maxRecDepth 100000 in
theorem lives (w : World) : Calls Tryd.prog 7 #[] w fun e w' => e = .returned (.bool true) ∧ Below w.heap.size w w' := by
  have hok : Ok 3 600 := ⟨by decide, by decide, by decide⟩
  have HW := hid (fun W => write 3 600 hok W)
  have HR := hid (fun W => readMark 3 600 hok W)
  have HS := hid (fun W => sectors 513 W)
  have HV : secI 513 = 2 := by decide
  rw [HV] at HS
  clear HV hok
  generalize markB 3 600 = s at HW HR
  go_enter Tryd.func7, Tryd.ntmps7
  go_wp2_with fail
  refine (HW.out _).mono ?_
  rintro e w1 ⟨rfl, b1⟩
  have B1 := hid b1
  clear b1
  go_wp2_with fail
  refine (HR.out _).mono ?_
  rintro e w2 ⟨rfl, b2⟩
  have B2 := hid (B1.out.trans (b2.mono B1.out.size))
  clear b2 B1
  go_upto_region 2 with fail
  go_wp2_with fail
  refine (HS.out _).mono ?_
  rintro e w3 ⟨rfl, rfl⟩
  go_wp2_with fail
  go_ret
  exact ⟨rfl, B2.out.alloc B2.out.size _⟩
end Com
end Go.Proofs.YthgjijjalfhhcabDoor
