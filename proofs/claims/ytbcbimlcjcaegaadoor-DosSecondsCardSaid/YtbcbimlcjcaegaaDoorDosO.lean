/- WALKS: times of parts. -/
import Derived.Test.YtbcbimlcjcaegaaDoorDosZ
import Derived.Handy
namespace Go.Proofs.YtbcbimlcjcaegaaDoor
set_option linter.unusedVariables false
open Go.RowKit
open Go.Proofs.Dos
attribute [local go_sem ↓] Go.wp_at_zero Go.wp_at_succ

theorem p2_4 : (2 : Int) ^ 4 = 16 := by decide
theorem p2_5 : (2 : Int) ^ 5 = 32 := by decide
theorem p2_6 : (2 : Int) ^ 6 = 64 := by decide
theorem p2_7 : (2 : Int) ^ 7 = 128 := by decide

theorem or32 (a p k : Nat) (hk : k ≤ 7) (hp : p < 2 ^ k) (ha : a * 2 ^ k + p < 4294967296) :
    bits .or .u32 ((a * 2 ^ k : Nat) : Int) (p : Int) = ((a * 2 ^ k + p : Nat) : Int) := by
  have hx : a * 2 ^ k < 2 ^ 32 := by omega
  have hy : p < 2 ^ 32 := by omega
  show IntKind.u32.wrap ((BitVec.ofInt 32 ((a * 2 ^ k : Nat) : Int) ||| BitVec.ofInt 32 (p : Int)).toNat : Int) = _
  rw [BitVec.toNat_or, BitVec.ofInt_natCast, BitVec.ofInt_natCast, BitVec.toNat_ofNat, BitVec.toNat_ofNat, Nat.mod_eq_of_lt hx, Nat.mod_eq_of_lt hy, IntKind.wrap_u32]
  have : a * 2 ^ k ||| p = a * 2 ^ k + p := by
    rw [Nat.mul_comm, Nat.two_pow_add_eq_or_of_lt hp]
  rw [this]; omega

set_option maxRecDepth 100000 in
set_option maxHeartbeats 2000000 in
/-- Some bits are laid below. -/
theorem lay (a p r : Int) (k b : Nat) (w : World) (hk : k ≤ 7) (ha : 0 ≤ a) (hp0 : 0 ≤ p) (hp : p < 2 ^ k) (hr : r = a * 2 ^ k + p) (h32 : r < 4294967296) (hA : At w b (.int .u32 a)) :
    Calls Tryd.prog 47 #[.int .i64 p, .int .i64 (k : Int), .pointer (some ⟨b, 0, none⟩)] w fun e w' => e = .returned (.tuple #[]) ∧ w' = w.setCell ⟨b, 0, none⟩ (.int .u32 r) := by
  obtain ⟨a, rfl⟩ := Int.eq_ofNat_of_zero_le ha
  obtain ⟨p, rfl⟩ := Int.eq_ofNat_of_zero_le hp0
  have hp' : p < 2 ^ k := by exact_mod_cast hp
  have hr' : r = ((a * 2 ^ k + p : Nat) : Int) := by rw [hr]; simp
  have h32' : a * 2 ^ k + p < 4294967296 := by omega
  have hm : (a : Int) * 2 ^ k % 4294967296 = ((a * 2 ^ k : Nat) : Int) := by
    have e : (a : Int) * 2 ^ k = ((a * 2 ^ k : Nat) : Int) := by simp
    rw [e]; omega
  have HO := hid (show bits .or .u32 ((a : Int) * 2 ^ k % 4294967296) (p : Int) = r by rw [hm, hr']; exact or32 a p k hk hp' h32')
  have hc := hA.cell
  have hf := hA.free
  have b0 : (p : Int) < 4294967296 := by omega
  have a0 : (a : Int) < 4294967296 := by
    have h1 : 1 ≤ 2 ^ k := Nat.one_le_two_pow
    have h2 : a * 1 ≤ a * 2 ^ k := Nat.mul_le_mul_left a h1
    omega
  clear hr hr' hm hp hp' h32' h32
  go_enter Tryd.func47, Tryd.ntmps47
  go_wp2_with fail
  go_returns
  exact ⟨rfl, by rw [HO.out]⟩

set_option maxRecDepth 100000 in
set_option maxHeartbeats 2000000 in
/-- The document's own time of parts. -/
theorem refOf (x : T) (w : World) (hx : RightT x) :
    Calls Tryd.prog 15 #[tV x] w fun e w' => e = .returned (.int .u32 (ofI x)) ∧ Below w.heap.size w w' := by
  have hb := ofI_bd hx
  have hm := hx.1.month
  obtain ⟨⟨q1, q2, q3, q4, q5, q6, q7, q8⟩, q9⟩ := hx
  obtain ⟨y, m, d, h, n, s⟩ := x
  simp only [tV, ofI] at *
  clear q2
  go_enter Tryd.func15, Tryd.ntmps15
  go_wp2_with fail
  go_ret
  exact ⟨ret_int (by omega), (Below.refl _ _).alloc (Nat.le_refl _) _⟩

/-- What Of tells. -/
def toldOf (x : T) : Value := if RightT x then .tuple #[.int .u32 (ofI x), .bool true] else .tuple #[.int .u32 0, .bool false]
theorem toldOf_no {x : T} (h : ¬ RightT x) : toldOf x = .tuple #[.int .u32 0, .bool false] := if_neg h
theorem toldOf_yes {x : T} (h : RightT x) : toldOf x = .tuple #[.int .u32 (ofI x), .bool true] := if_pos h
theorem fitsB_no {x : T} (h : fitsB x = false) : ¬ Fits x := by unfold fitsB at h; simpa using h
theorem fitsB_yes {x : T} (h : fitsB x = true) : Fits x := by unfold fitsB at h; simpa using h

/-- Six cells of a block. -/
theorem six_ {w : World} {g : Nat} {T : TypeId} {a0 a1 a2 a3 a4 a5 : Value} (h : w.heap[g]? = some (.cells #[a0, a1, a2, a3, a4, a5] T (0, 0))) :
    w.cell? ⟨g, 0, none⟩ = some a0 ∧ w.cell? ⟨g, 1, none⟩ = some a1 ∧ w.cell? ⟨g, 2, none⟩ = some a2 ∧ w.cell? ⟨g, 3, none⟩ = some a3 ∧ w.cell? ⟨g, 4, none⟩ = some a4 ∧ w.cell? ⟨g, 5, none⟩ = some a5 := by
  have c : ∀ j, w.cell? ⟨g, j, none⟩ = #[a0, a1, a2, a3, a4, a5][j]? := fun j => cell_of_row _ _ _ _ _ _ h
  exact ⟨c 0, c 1, c 2, c 3, c 4, c 5⟩

set_option maxRecDepth 100000 in
set_option maxHeartbeats 4000000 in
/-- The program's time of parts. -/
theorem of_ (x : T) (w : World) (hT : Tab w) (hx : Ints x) :
    Calls Tryd.prog 14 #[tV x] w fun e w' => e = .returned (toldOf x) ∧ Below w.heap.size w w' := by
  have hn := @toldOf_no x
  have hy := @toldOf_yes x
  have hbd := @ofI_bd x
  have HF := hid (show ∀ w' : World, Tab w' → Calls Tryd.prog 46 #[tV x] w' fun e w2 => e = .returned (.bool (fitsB x)) ∧ Below w'.heap.size w' w2 from fun w' h => fits x w' h hx)
  cases hb : fitsB x
  · have HN := hid (hn (fun h => fitsB_no hb h.1))
    rw [hb] at HF
    clear hn hy hbd hb
    unfold tV at HF ⊢
    go_enter Tryd.func14, Tryd.ntmps14
    go_wp2_with fail
    refine (HF.out _ (hT.alloc _)).mono ?_
    rintro e w2 ⟨rfl, hB2⟩
    have HB := hid (((Below.refl w.heap.size w).alloc (Nat.le_refl _) _).trans (hB2.mono (by simp)))
    clear hB2
    go_wp2_with fail
    go_returns
    exact ⟨by rw [HN.out]; rfl, HB.out⟩
  · have hfits := fitsB_yes hb
    rw [hb] at HF
    obtain ⟨s0, s1⟩ := And.intro hx.s0 hx.s1
    by_cases h2 : x.second % 2 = 0
    · have hR : RightT x := ⟨hfits, h2⟩
      have HN := hid (hy hR)
      have hbo := hbd hR
      have hm := hfits.month
      obtain ⟨q1, q2, q3, q4, q5, q6, q7, q8⟩ := hfits
      clear hn hy hbd hb hR q2 hx
      obtain ⟨y, m, d, h, n, s⟩ := x
      simp only [tV, ofI] at *
      go_enter Tryd.func14, Tryd.ntmps14
      go_wp2_with fail
      refine (HF.out _ (hT.alloc _)).mono ?_
      rintro e w2 ⟨rfl, hB2⟩
      obtain ⟨c0, c1, c2, c3, c4, c5⟩ := six_ ((hB2.block w.heap.size (by simp)).trans (heap_alloc_new _ _))
      have hsz : w.heap.size < w2.heap.size := by have := hB2.size; simp at this; omega
      have HB := hid (((Below.refl w.heap.size w).alloc (Nat.le_refl _) (.cells #[.int .i64 y, .int .i64 m, .int .i64 d, .int .i64 h, .int .i64 n, .int .i64 s] 26)).trans (hB2.mono (by simp)))
      clear hB2
      go_wp2_with fail
      refine (lay 0 (y - 1980) (y - 1980) 7 _ _ (by decide) (by omega) (by omega) (by rw [p2_7] <;> omega) (by rw [p2_7] <;> omega) (by omega) (by repeat (first | with_reducible exact At.new _ _ _ | with_reducible exact Has.new _ _ _ | with_reducible refine At.set _ ?_ | with_reducible refine Has.set _ ?_))).mono ?_
      rintro e w3 ⟨rfl, rfl⟩
      go_wp2_with fail
      refine (lay (y - 1980) m ((y - 1980) * 16 + m) 4 _ _ (by decide) (by omega) (by omega) (by rw [p2_4] <;> omega) (by rw [p2_4] <;> omega) (by omega) (by repeat (first | with_reducible exact At.new _ _ _ | with_reducible exact Has.new _ _ _ | with_reducible refine At.set _ ?_ | with_reducible refine Has.set _ ?_))).mono ?_
      rintro e w3 ⟨rfl, rfl⟩
      go_wp2_with fail
      refine (lay ((y - 1980) * 16 + m) d (((y - 1980) * 16 + m) * 32 + d) 5 _ _ (by decide) (by omega) (by omega) (by rw [p2_5] <;> omega) (by rw [p2_5] <;> omega) (by omega) (by repeat (first | with_reducible exact At.new _ _ _ | with_reducible exact Has.new _ _ _ | with_reducible refine At.set _ ?_ | with_reducible refine Has.set _ ?_))).mono ?_
      rintro e w3 ⟨rfl, rfl⟩
      go_wp2_with fail
      refine (lay (((y - 1980) * 16 + m) * 32 + d) h ((((y - 1980) * 16 + m) * 32 + d) * 32 + h) 5 _ _ (by decide) (by omega) (by omega) (by rw [p2_5] <;> omega) (by rw [p2_5] <;> omega) (by omega) (by repeat (first | with_reducible exact At.new _ _ _ | with_reducible exact Has.new _ _ _ | with_reducible refine At.set _ ?_ | with_reducible refine Has.set _ ?_))).mono ?_
      rintro e w3 ⟨rfl, rfl⟩
      go_wp2_with fail
      refine (lay ((((y - 1980) * 16 + m) * 32 + d) * 32 + h) n (((((y - 1980) * 16 + m) * 32 + d) * 32 + h) * 64 + n) 6 _ _ (by decide) (by omega) (by omega) (by rw [p2_6] <;> omega) (by rw [p2_6] <;> omega) (by omega) (by repeat (first | with_reducible exact At.new _ _ _ | with_reducible exact Has.new _ _ _ | with_reducible refine At.set _ ?_ | with_reducible refine Has.set _ ?_))).mono ?_
      rintro e w3 ⟨rfl, rfl⟩
      go_wp2_with fail
      refine (lay (((((y - 1980) * 16 + m) * 32 + d) * 32 + h) * 64 + n) (s / 2) ((((((y - 1980) * 16 + m) * 32 + d) * 32 + h) * 64 + n) * 32 + s / 2) 5 _ _ (by decide) (by omega) (by omega) (by rw [p2_5] <;> omega) (by rw [p2_5] <;> omega) (by omega) (by repeat (first | with_reducible exact At.new _ _ _ | with_reducible exact Has.new _ _ _ | with_reducible refine At.set _ ?_ | with_reducible refine Has.set _ ?_))).mono ?_
      rintro e w3 ⟨rfl, rfl⟩
      go_wp2_with fail
      go_returns
      refine ⟨by rw [HN.out]; exact congrArg Ending.returned (congrArg Value.tuple (by rw [show (((((y - 1980) * 16 + m) * 32 + d) * 32 + h) * 2048 + n * 32) + s / 2 = ((((((y - 1980) * 16 + m) * 32 + d) * 32 + h) * 64 + n) * 32 + s / 2) by omega]; rfl)), ?_⟩
      repeat (first | with_reducible exact HB.out | with_reducible refine Below.setCell ?_ (by (dsimp only; omega)) _ | with_reducible refine Below.alloc ?_ (by omega) _)
    · have HN := hid (hn (fun h => h2 h.2))
      obtain ⟨q1, q2, q3, q4, q5, q6, q7, q8⟩ := hfits
      clear hn hy hbd hb q2
      obtain ⟨y, m, d, h, n, s⟩ := x
      simp only [tV] at *
      go_enter Tryd.func14, Tryd.ntmps14
      go_wp2_with fail
      refine (HF.out _ (hT.alloc _)).mono ?_
      rintro e w2 ⟨rfl, hB2⟩
      obtain ⟨c0, c1, c2, c3, c4, c5⟩ := six_ ((hB2.block w.heap.size (by simp)).trans (heap_alloc_new _ _))
      have HB := hid (((Below.refl w.heap.size w).alloc (Nat.le_refl _) (.cells #[.int .i64 y, .int .i64 m, .int .i64 d, .int .i64 h, .int .i64 n, .int .i64 s] 26)).trans (hB2.mono (by simp)))
      clear hB2
      go_wp2_with fail
      go_returns
      exact ⟨by rw [HN.out]; rfl, HB.out⟩
end Go.Proofs.YtbcbimlcjcaegaaDoor
