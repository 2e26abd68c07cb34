/- DetectStates: what became of a node, by both sides; the law's walk. -/
import Derived.Test.YtioejdeghcjfcaaDetA
namespace Go.Proofs.Ytioejdeghcjfcaa
set_option linter.unusedVariables false
open Go.RowKit
open Sm (hid)
attribute [local go_sem ↓] Go.wp_at_zero Go.wp_at_succ
namespace Nod
theorem ret_i64 {a b : Int} (h : a = b) : Ending.returned (.int .i64 a) = .returned (.int .i64 b) := by rw [h]
/-- Two boxes: a print and a node. -/
structure Pn (w W : World) (k0 m0 t0 n0 s0 k m t : Int) (d : ByteArray) : Prop where
  one : W.heap[w.heap.size]? = some (.cells #[.int .i64 k0, .int .i64 m0, .int .u32 t0, .int .i64 n0, .int .u32 s0] 24 (0, 0))
  two : W.heap[w.heap.size + 1]? = some (.cells #[.int .i64 k, .int .i64 m, .int .u32 t, .string d] 26 (0, 0))
  below : Below w.heap.size w W
theorem pn_new (w : World) (k0 m0 t0 n0 s0 k m t : Int) (d : ByteArray) :
    Pn w ((w.alloc (.cells #[.int .i64 k0, .int .i64 m0, .int .u32 t0, .int .i64 n0, .int .u32 s0] 24)).alloc (.cells #[.int .i64 k, .int .i64 m, .int .u32 t, .string d] 26)) k0 m0 t0 n0 s0 k m t d :=
  ⟨(Below.heap_alloc _ _ _ (by simp)).trans (heap_alloc_new _ _), by have := heap_alloc_new (w.alloc (.cells #[.int .i64 k0, .int .i64 m0, .int .u32 t0, .int .i64 n0, .int .u32 s0] 24)) (.cells #[.int .i64 k, .int .i64 m, .int .u32 t, .string d] 26); rw [World.size_alloc] at this; exact this, ((Below.refl _ _).alloc (Nat.le_refl _) _).alloc (by simp) _⟩
theorem Pn.step {w W W' : World} {k0 m0 t0 n0 s0 k m t : Int} {d : ByteArray} (h : Pn w W k0 m0 t0 n0 s0 k m t d) (hb : Below W.heap.size W W') : Pn w W' k0 m0 t0 n0 s0 k m t d :=
  ⟨row_step h.one hb, row_step h.two hb, h.below.trans (hb.mono h.below.size)⟩
theorem Pn.drew {w W : World} {k0 m0 t0 n0 s0 k m t : Int} {d : ByteArray} (h : Pn w W k0 m0 t0 n0 s0 k m t d) : Pn w W.drew k0 m0 t0 n0 s0 k m t d := ⟨h.one, h.two, h.below.drew⟩
theorem Pn.set {w W : World} {k0 m0 t0 n0 s0 k m t : Int} {d : ByteArray} (h : Pn w W k0 m0 t0 n0 s0 k m t d) (x : ByteArray) : Pn w (W.setCell ⟨w.heap.size + 1, 3, none⟩ (.string x)) k0 m0 t0 n0 s0 k m t x :=
  ⟨(heap_setCell_other _ ⟨w.heap.size + 1, 3, none⟩ _ _ (by show _ ≠ w.heap.size + 1; omega)).trans h.one, heap_setCell_same _ _ 3 _ _ _ h.two, h.below.setCell (p := ⟨w.heap.size + 1, 3, none⟩) (by show w.heap.size ≤ w.heap.size + 1; omega) _⟩
/-- What became of a node. -/
def stateB (had same : Bool) (k : Int) : Int := if had = true then (if same = true then 0 else if k = 0 then 3 else 2) else if k = 0 then 0 else 1
def eqB (k0 m0 t0 n0 s0 k m t : Int) (d : ByteArray) : Bool := decide (k0 = k ∧ m0 = m ∧ t0 = t ∧ n0 = (d.size : Int) ∧ s0 = sumB k d)
abbrev Cells2 (w W' : World) (k0 m0 t0 n0 s0 k m t : Int) (d : ByteArray) : Prop :=
  (W'.cell? ⟨w.heap.size, 0, none⟩ = some (.int .i64 k0) ∧ W'.cell? ⟨w.heap.size, 1, none⟩ = some (.int .i64 m0) ∧ W'.cell? ⟨w.heap.size, 2, none⟩ = some (.int .u32 t0) ∧ W'.cell? ⟨w.heap.size, 3, none⟩ = some (.int .i64 n0) ∧ W'.cell? ⟨w.heap.size, 4, none⟩ = some (.int .u32 s0)) ∧
  (W'.cell? ⟨w.heap.size + 1, 0, none⟩ = some (.int .i64 k) ∧ W'.cell? ⟨w.heap.size + 1, 1, none⟩ = some (.int .i64 m) ∧ W'.cell? ⟨w.heap.size + 1, 2, none⟩ = some (.int .u32 t) ∧ W'.cell? ⟨w.heap.size + 1, 3, none⟩ = some (.string d))
theorem Pn.cells {w W : World} {k0 m0 t0 n0 s0 k m t : Int} {d : ByteArray} (h : Pn w W k0 m0 t0 n0 s0 k m t d) : Cells2 w W k0 m0 t0 n0 s0 k m t d := ⟨five_cells h.one, four_cells h.two⟩
set_option maxRecDepth 100000 in
set_option maxHeartbeats 2000000 in
theorem state4 (k0 m0 t0 n0 s0 k m t : Int) (d : ByteArray) (had : Bool) (w : World) (hd : d.size ≤ 2000) :
    Calls Try.prog 4 #[printV k0 m0 t0 n0 s0, .bool had, nodeV k m t d] w fun e w' => e = .returned (.int .i64 (stateB had (eqB k0 m0 t0 n0 s0 k m t d) k)) ∧ Below w.heap.size w w' := by
  have HP := hid (pn_new w k0 m0 t0 n0 s0 k m t d)
  have HPR := hid (fun W => print k m t d W hd)
  have he : ∀ W, (binOp BinOp.eql 24 (printV k0 m0 t0 n0 s0) (printV k m t (d.size : Int) (sumB k d))).run Try.prog W = .ok (.bool (eqB k0 m0 t0 n0 s0 k m t d)) W := fun W => eq29 _ _ _ _ _ _ _ _ _ _ W
  generalize eqB k0 m0 t0 n0 s0 k m t d = E at *
  generalize (d.size : Int) = z at *
  generalize sumB k d = sm at *
  go_enter Try.func4, Try.ntmps4
  go_upto_region 1 with fail
  generalize (w.alloc (.cells #[.int .i64 k0, .int .i64 m0, .int .u32 t0, .int .i64 n0, .int .u32 s0] 24)).alloc (.cells #[.int .i64 k, .int .i64 m, .int .u32 t, .string d] 26) = W at HP ⊢
  have c0 := HP.out.cells.2.1
  obtain ⟨kz, hkz⟩ : ∃ kz : Bool, kz = decide (k = 0) := ⟨_, rfl⟩
  have hk1 : (k == 0) = kz := by rw [hkz]; by_cases h : k = 0 <;> simp [h]
  have HK := hid hkz
  clear hkz
  go_upto_region 2 with fail
  cases had with
  | false =>
    have HS := hid (show stateB false E k = if kz = true then 0 else 1 from by rw [HK.out]; unfold stateB; by_cases h : k = 0 <;> simp [h])
    clear hk1 c0
    go_quiet (fail)
    have HB := hid (show Below w.heap.size w (W.drewN nq) from HP.out.below.trans ⟨rfl, rfl, rfl, Nat.le_refl _, fun _ _ => rfl⟩)
    cases kz <;>
    · go_wp2_with fail
      go_ret
      exact ⟨ret_i64 (by rw [HS.out]; rfl), HB.out⟩
  | true =>
    have HS := hid (show stateB true E k = if E = true then 0 else if kz = true then 3 else 2 from by rw [HK.out]; unfold stateB; by_cases h : k = 0 <;> simp [h])
    have HC := hid HP.out.cells
    clear hk1 c0
    go_region_held3 (fun W' => Cells2 w W' k0 m0 t0 n0 s0 k m t d) (first | exact HC.out | exact K1.out.cells | go_keep)
      ((go_at_call 8; refine (HPR.out _).mono ?_; rintro e w1 ⟨rfl, h⟩; have K1 := hid (HP.out.drew.step h); clear h))
    cases E <;> cases kz <;>
    · go_wp2_with fail
      go_ret
      exact ⟨ret_i64 (by rw [HS.out]; rfl), K1.out.below⟩
set_option maxRecDepth 100000 in
set_option maxHeartbeats 2000000 in
theorem state5 (k0 m0 t0 n0 s0 k m t : Int) (d : ByteArray) (had : Bool) (w : World) (hd : d.size ≤ 2000) :
    Calls Try.prog 5 #[printV k0 m0 t0 n0 s0, .bool had, nodeV k m t d] w fun e w' => e = .returned (.int .i64 (stateB had (eqB k0 m0 t0 n0 s0 k m t d) k)) ∧ Below w.heap.size w w' := by
  have HP := hid (pn_new w k0 m0 t0 n0 s0 k m t d)
  have HPR := hid (fun W => refPrint k m t d W hd)
  have he : ∀ W, (binOp BinOp.eql 24 (printV k0 m0 t0 n0 s0) (printV k m t (d.size : Int) (sumB k d))).run Try.prog W = .ok (.bool (eqB k0 m0 t0 n0 s0 k m t d)) W := fun W => eq29 _ _ _ _ _ _ _ _ _ _ W
  generalize eqB k0 m0 t0 n0 s0 k m t d = E at *
  generalize (d.size : Int) = z at *
  generalize sumB k d = sm at *
  go_enter Try.func5, Try.ntmps5
  go_upto_region 1 with fail
  generalize (w.alloc (.cells #[.int .i64 k0, .int .i64 m0, .int .u32 t0, .int .i64 n0, .int .u32 s0] 24)).alloc (.cells #[.int .i64 k, .int .i64 m, .int .u32 t, .string d] 26) = W at HP ⊢
  obtain ⟨kz, hkz⟩ : ∃ kz : Bool, kz = decide (k = 0) := ⟨_, rfl⟩
  have hk1 : (k == 0) = kz := by rw [hkz]; by_cases h : k = 0 <;> simp [h]
  have HK := hid hkz
  clear hkz
  cases had with
  | false =>
    have HS := hid (show stateB false E k = if kz = true then 0 else 1 from by rw [HK.out]; unfold stateB; by_cases h : k = 0 <;> simp [h])
    have c0 := HP.out.cells.2.1
    cases kz <;>
    · go_wp2_with fail
      go_ret
      exact ⟨ret_i64 (by rw [HS.out]; rfl), HP.out.below⟩
  | true =>
    have HS := hid (show stateB true E k = if E = true then 0 else if kz = true then 3 else 2 from by rw [HK.out]; unfold stateB; by_cases h : k = 0 <;> simp [h])
    have HC := hid HP.out.cells
    have HK1 := hid hk1
    clear hk1
    go_upto_region 5 with fail
    go_region_held3 (fun W' => Cells2 w W' k0 m0 t0 n0 s0 k m t d) (first | exact HC.out | exact K1.out.cells | go_keep)
      ((go_at_call 6; refine (HPR.out _).mono ?_; rintro e w1 ⟨rfl, h⟩; have K1 := hid (HP.out.drew.step h); clear h))
    have c0 := K1.out.cells.2.1
    have hk1 := HK1.out
    cases E <;> cases kz <;>
    · go_wp2_with fail
      go_ret
      exact ⟨ret_i64 (by rw [HS.out]; rfl), K1.out.below⟩
set_option maxRecDepth 100000 in
set_option maxHeartbeats 2000000 in
theorem lives (w : World) : Calls Try.prog 7 #[] w fun e w' => e = .returned (.bool true) ∧ Below w.heap.size w w' := by
  have H1 := hid (fun W => state4 0 0 0 0 0 1 0 0 ⟨#[]⟩ false W (by decide))
  have H2 := hid (fun W => state4 0 0 0 0 0 0 0 0 ⟨#[]⟩ false W (by decide))
  have e1 : ∀ E, stateB false E 1 = 1 := fun E => rfl
  have e2 : ∀ E, stateB false E 0 = 0 := fun E => rfl
  rw [e1] at H1
  rw [e2] at H2
  go_enter Try.func7, Try.ntmps7
  go_wp2_with (first
    | (have tok := B1.out; clear tok; go_at_call 4; refine (H2.out _).mono ?_; rintro e w2 ⟨rfl, h⟩; have B2 := hid (B1.out.trans (h.mono B1.out.size)); clear h)
    | (go_at_call 4; refine (H1.out _).mono ?_; rintro e w1 ⟨rfl, h⟩; have B1 := hid h; clear h))
  go_ret
  exact ⟨rfl, B2.out⟩
set_option maxRecDepth 100000 in
set_option maxHeartbeats 4000000 in
theorem walk (k0 m0 t0 n0 s0 k m t : Int) (d : ByteArray) (had : Bool) (w : World) (hd : d.size ≤ 9223372036854775807) :
    Calls Try.prog 3 #[printV k0 m0 t0 n0 s0, .bool had, nodeV k m t d] w fun e w' => e = .returned (.bool true) ∧ Below w.heap.size w w' := by
  have HP := hid (pn_new w k0 m0 t0 n0 s0 k m t d)
  go_enter Try.func3, Try.ntmps3
  go_upto_region 1 with fail
  generalize (w.alloc (.cells #[.int .i64 k0, .int .i64 m0, .int .u32 t0, .int .i64 n0, .int .u32 s0] 24)).alloc (.cells #[.int .i64 k, .int .i64 m, .int .u32 t, .string d] 26) = W at HP ⊢
  go_cut [] (fun wx => ∃ x : ByteArray, x.size ≤ 2000 ∧ Pn w wx k0 m0 t0 n0 s0 k m t x)
  case first =>
    obtain ⟨a0, a1, a2, a3⟩ := HP.out.cells.2
    have f3 := frozen_of_row W (w.heap.size + 1) 3 _ _ HP.out.two
    by_cases h : d.size ≤ 2000
    · have h' : (d.size : Int) ≤ 2000 := by omega
      go_wp2_with fail
      go_meet
      exact ⟨d, h, HP.out.set d⟩
    · have h' : ¬ (d.size : Int) ≤ 2000 := by omega
      have h5 : (2000 : Int) ≤ (d.size : Int) := by omega
      go_wp2_with fail
      go_meet
      exact ⟨d.extract 0 2000, by simp; omega, HP.out.set _⟩
  case rest =>
    obtain ⟨x, hx, hpn⟩ := hcut
    have K0 := hid hpn
    clear hpn HP hd
    have H1 := hid (fun W => state4 k0 m0 t0 n0 s0 k m t x had W hx)
    have H2 := hid (fun W => state5 k0 m0 t0 n0 s0 k m t x had W hx)
    have H3 := hid (fun W => refPrint k m t x W hx)
    have H4 := hid (fun W => state4 k m t (x.size : Int) (sumB k x) k m t x true W hx)
    have e4 : stateB true (eqB k m t (x.size : Int) (sumB k x) k m t x) k = 0 := by simp [stateB, eqB]
    rw [e4] at H4
    generalize stateB had (eqB k0 m0 t0 n0 s0 k m t x) k = S at *
    clear e4
    generalize (x.size : Int) = z at *
    generalize sumB k x = sm at *
    have HC := hid K0.out.cells
    go_upto_region 2 with fail
    go_region_held3 (fun W' => Cells2 w W' k0 m0 t0 n0 s0 k m t x)
      (first | exact HC.out | exact K5.out.cells | exact K4.out.cells | exact K3.out.cells | exact K2.out.cells | exact K1.out.cells | go_keep)
      (first
      | (have tok := K4.out; clear tok; go_at_call 7; refine (lives _).mono ?_; rintro e wq5 ⟨rfl, h⟩; have K5 := hid (K4.out.step h); clear h)
      | (have tok := K3.out; clear tok; go_at_call 4; refine (H4.out _).mono ?_; rintro e wq4 ⟨rfl, h⟩; have K4 := hid (K3.out.step h); clear h)
      | (have tok := K2.out; clear tok; go_at_call 6; refine (H3.out _).mono ?_; rintro e wq3 ⟨rfl, h⟩; have K3 := hid (K2.out.step h); clear h)
      | (have tok := K1.out; clear tok; go_at_call 5; refine (H2.out _).mono ?_; rintro e wq2 ⟨rfl, h⟩; have K2 := hid (K1.out.step h); clear h)
      | (go_at_call 4; refine (H1.out _).mono ?_; rintro e wq1 ⟨rfl, h⟩; have K1 := hid (K0.out.drew.step h); clear h))
    go_wp2_with fail
    go_ret
    exact ⟨rfl, K5.out.below⟩
end Nod
end Go.Proofs.Ytioejdeghcjfcaa
