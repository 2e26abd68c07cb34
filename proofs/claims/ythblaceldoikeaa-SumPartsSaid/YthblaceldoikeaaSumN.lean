/- WALKS over the states behind noughts: the shift by one byte, the shift by twice as many, and the noughts by powers of two; the sum of two texts from theirs. -/
import Derived.Test.YthblaceldoikeaaSumO
import Derived.Test.YthblaceldoikeaaSumP
import Derived.Deep.DeepCutAuto
namespace Go.Proofs.Ythblaceldoikeaa
set_option linter.unusedVariables false
open Go.RowKit
open Go.Proofs.Crc

def shI (m j : Nat) : Int := ((bitAt m j : Nat) : Int)
def nulI (s : Int) (m : Nat) : Int := ((nuls s.toNat m : Nat) : Int)
def lowI (s : Int) (m k : Nat) : Int := ((low s.toNat m k : Nat) : Int)

theorem shI_bd (m j : Nat) (h : j < 32) : 0 ≤ shI m j ∧ shI m j < 4294967296 := by
  have := nuls_lt (2 ^ j) m (Nat.pow_lt_pow_right (by decide) h)
  unfold shI bitAt; omega
theorem nulI_bd (s : Int) (m : Nat) (h0 : 0 ≤ s) (h1 : s < 4294967296) : 0 ≤ nulI s m ∧ nulI s m < 4294967296 := by
  have := nuls_lt s.toNat m (by omega)
  unfold nulI; omega
theorem lowI_bd (s : Int) (m k : Nat) (h0 : 0 ≤ s) (h1 : s < 4294967296) : 0 ≤ lowI s m k ∧ lowI s m k < 4294967296 := by
  have h2 : s.toNat % 2 ^ k ≤ s.toNat := Nat.mod_le _ _
  have := nuls_lt (s.toNat % 2 ^ k) m (by omega)
  unfold lowI low; omega

def shV (m : Nat) : Array Value := ((List.range 32).map fun j => Value.int .u32 (shI m j)).toArray
theorem shV_size (m : Nat) : (shV m).size = 32 := by unfold shV; simp
theorem shV_at (m j : Nat) (h : j < 32) : (shV m)[j]? = some (.int .u32 (shI m j)) := by
  unfold shV
  simp [h]
theorem shV_one (m : Nat) : (shV m).all (·.oneCell') = true := by
  rw [Array.all_eq_true_iff_forall_mem]
  intro x hx
  unfold shV at hx
  simp at hx
  obtain ⟨j, _, rfl⟩ := hx
  rfl

/-- A block that holds a shift's first k numbers. -/
def IsSh (w : World) (g m k : Nat) : Prop := ∃ cs : Array Value, w.heap[g]? = some (.cells cs 111 (0, 0)) ∧ cs.size = 32 ∧ ∀ j, j < k → cs[j]? = some (.int .u32 (shI m j))

theorem IsSh.cell {w : World} {g m k j : Nat} (h : IsSh w g m k) (hj : j < k) : w.cell? ⟨g, j, none⟩ = some (.int .u32 (shI m j)) := by
  obtain ⟨cs, hg, _, hc⟩ := h
  rw [cell_of_row w g j cs 111 (0, 0) hg, hc j hj]
theorem IsSh.lt {w : World} {g m k : Nat} (h : IsSh w g m k) : g < w.heap.size := by
  obtain ⟨cs, h1, _⟩ := h
  exact (Array.getElem?_eq_some_iff.1 h1).1
theorem IsSh.below {w w' : World} {B g m k : Nat} (h : IsSh w g m k) (hb : Below B w w') (hg : g < B) : IsSh w' g m k := by
  obtain ⟨cs, h1, h2⟩ := h
  exact ⟨cs, by rw [hb.block g hg]; exact h1, h2⟩
theorem IsSh.set {w : World} {g m k : Nat} (h : IsSh w g m k) (hk : k < 32) : IsSh (w.setCell ⟨g, k, none⟩ (.int .u32 (shI m k))) g m (k + 1) := by
  obtain ⟨cs, h1, h2, h3⟩ := h
  refine ⟨cs.setIfInBounds k (.int .u32 (shI m k)), heap_setCell_same w g k cs 111 _ h1, by simpa using h2, ?_⟩
  intro j hj
  rw [Array.getElem?_setIfInBounds]
  by_cases e : k = j
  · subst e; simp [h2, hk]
  · rw [if_neg e]; exact h3 j (by omega)
theorem IsSh.there {w : World} {g m k : Nat} (h : IsSh w g m k) (j : Nat) (hk : j < 32) : ∃ v, w.cell? ⟨g, j, none⟩ = some v := by
  obtain ⟨cs, h1, h2, h3⟩ := h
  exact ⟨cs[j], by rw [cell_of_row w g j cs 111 (0, 0) h1]; simp [h2, hk]⟩
theorem IsSh.free {w : World} {g m k : Nat} (h : IsSh w g m k) (j : Nat) : w.frozen? ⟨g, j, none⟩ = false := by
  obtain ⟨cs, h1, h2, h3⟩ := h
  exact frozen_of_row w g j cs 111 h1
theorem IsSh.whole {w : World} {g m : Nat} (h : IsSh w g m 32) : w.heap[g]? = some (.cells (shV m) 111 (0, 0)) := by
  obtain ⟨cs, h1, h2, h3⟩ := h
  have : cs = shV m := by
    apply Array.ext_getElem?
    intro j
    by_cases hj : j < 32
    · rw [h3 j hj, shV_at m j hj]
    · rw [Array.getElem?_eq_none (by omega), Array.getElem?_eq_none (by rw [shV_size]; omega)]
  rw [h1, this]
theorem isSh_of_row {w : World} {g m : Nat} (h : w.heap[g]? = some (.cells (shV m) 111 (0, 0))) : IsSh w g m 32 := ⟨_, h, shV_size m, fun j hj => shV_at m j hj⟩
theorem isSh_start {w : World} {g m : Nat} {z : Array Value} (h : w.heap[g]? = some (.cells z 111 (0, 0))) (hz : z.size = 32) : IsSh w g m 0 := ⟨z, h, hz, fun j hj => by omega⟩
def IsRow111 (w : World) (g : Nat) : Prop := ∃ z, w.heap[g]? = some (.cells z 111 (0, 0)) ∧ z.size = 32

theorem und111 : Try.prog.underlying 111 = some (.array 32 53) := by kernel_rfl
theorem size111 : (Try.prog.info? 111).map (·.size) = some 32 := by kernel_rfl

theorem bit_one (k : Nat) (h : k < 32) : byteI (2 ^ k % 4294967296) 0 = shI 1 k := by
  have h1 : 2 ^ k < 2 ^ 32 := Nat.pow_lt_pow_right (by decide) h
  have e : ((2 : Int) ^ k % 4294967296) = ((2 ^ k : Nat) : Int) := by
    have : ((2 : Int) ^ k) = ((2 ^ k : Nat) : Int) := by simp
    rw [this]
    generalize 2 ^ k = n at h1 ⊢
    omega
  rw [e]
  unfold byteI shI bitAt
  rw [Int.toNat_natCast, Int.toNat_zero, byte_nul]

set_option maxRecDepth 100000 in
set_option maxHeartbeats 400000 in
theorem nought (w : World) :
    Calls Try.prog 65 #[] w fun e w' => e = .returned (.agg (shV 1)) ∧ Below w.heap.size w w' := by
  go_enter Try.func65, Try.ntmps65
  go_wp2_with fail
  go_loopw [2, 3] (fun _ i wr => ∃ k : Nat, k ≤ 32 ∧ i = .int .i64 k ∧ Below w.heap.size w wr ∧ wr.heap.size = w.heap.size + 2 ∧ IsRow111 wr w.heap.size ∧ IsSh wr (w.heap.size + 1) 1 k) (fun _ i _ => 32 - (intOf i).toNat)
  case atStart =>
    exact ⟨0, by omega, rfl, ((Below.refl _ _).alloc (Nat.le_refl _) _).alloc (by simp) _, by simp, ⟨_, heap_alloc2_old _ _ _, rfl⟩, isSh_start (heap_alloc2_new _ _ _) rfl⟩
  case round =>
    obtain ⟨k, hk, rfl, hB, hsz, hres, htab⟩ := hrel
    have HB := hid hB
    have HS := hid hsz
    have HR := hid hres
    have HT := hid htab
    clear hB hsz hres htab
    by_cases hlt : k < 32
    · obtain ⟨v, hv⟩ := HT.out.there k hlt
      have hf := HT.out.free k
      have HE := hid (bit_one k hlt)
      go_wp2_with (go_at_call 63; refine (behindI (2 ^ k % 4294967296) 0 _ (by omega) (by omega) (by omega) (by omega)).mono ?_; rintro e w' ⟨rfl, rfl⟩; rw [HE.out])
      go_roundw
      case rel => exact ⟨k + 1, by omega, by go_num, HB.out.setCell (by simp) _, by simpa using HS.out, by
        obtain ⟨z, h1, h2⟩ := HR.out
        exact ⟨z, by rw [heap_setCell_other _ _ _ _ (by simp)]; exact h1, h2⟩, HT.out.set hlt⟩
      case measure => simp [intOf]; omega
    · obtain rfl : k = 32 := by omega
      have hw := HT.out.whole
      obtain ⟨z, hz1, hz2⟩ := HR.out
      go_wp2_with (first | (refine wpList_load_row rfl 111 _ rfl (w.heap.size + 1) rfl 111 (shV 1) (0, 0) (.array 32 53) hw und111 rfl (by rw [shV_size]; exact size111) ?_) | (refine wpList_store_row rfl 111 _ _ rfl w.heap.size (shV 1) rfl rfl 111 z hz1 (by rw [shV_size]; exact size111) (by rw [shV_size]; exact hz2) (shV_one 1) ?_))
      exact bodyPost_ret (results_cell_row (fn := Try.f65) rfl _ _ w.heap.size 111 (shV 1) (0, 0) (.array 32 53) rfl (setRow_heap _ _ _ _ _ _ hz1) und111 rfl (by rw [shV_size]; exact size111)) rfl ⟨rfl, below_setRow HB.out (Nat.le_refl _) _⟩

/-- The bits of a state, one by one. -/
theorem lowI_yes (s : Int) (m k : Nat) (h0 : 0 ≤ s) (h1 : s < 4294967296) (hk : k < 32) (h : s / 2 ^ k % 2 = 1) : bits .xor .u32 (lowI s m k) (shI m k) = lowI s m (k + 1) := by
  obtain ⟨S, rfl⟩ := Int.eq_ofNat_of_zero_le h0
  have a := lowI_bd (S : Int) m k h0 h1
  have b := shI_bd m k hk
  have e := bits_xor_u32 (low S m k) (bitAt m k) (by unfold lowI at a; rw [Int.toNat_natCast] at a; omega) (by unfold shI at b; omega)
  have h2 : S / 2 ^ k % 2 = 1 := by
    have : ((S : Int) / 2 ^ k % 2) = ((S / 2 ^ k % 2 : Nat) : Int) := by simp
    omega
  unfold lowI shI
  rw [Int.toNat_natCast, low_yes S m k h2]
  exact e
theorem one_bit (s : Int) (k : Nat) (h0 : 0 ≤ s) (h1 : s < 4294967296) : bits .and .u32 (s / 2 ^ k) 1 = s / 2 ^ k % 2 := by
  obtain ⟨S, rfl⟩ := Int.eq_ofNat_of_zero_le h0
  have e : ((S : Int) / 2 ^ k) = ((S / 2 ^ k : Nat) : Int) := by simp
  have hl : S / 2 ^ k ≤ S := Nat.div_le_self _ _
  rw [e]
  generalize S / 2 ^ k = n at hl ⊢
  have h := bits_mask .u32 32 (by decide) (fun n h₀ h₁ => by rw [IntKind.wrap_u32]; omega) 1 (by decide) (n : Int) (by omega) (by omega)
  exact h
theorem lowI_no (s : Int) (m k : Nat) (h0 : 0 ≤ s) (h : ¬ s / 2 ^ k % 2 = 1) : lowI s m k = lowI s m (k + 1) := by
  obtain ⟨S, rfl⟩ := Int.eq_ofNat_of_zero_le h0
  have h2 : ¬ S / 2 ^ k % 2 = 1 := by
    have : ((S : Int) / 2 ^ k % 2) = ((S / 2 ^ k % 2 : Nat) : Int) := by simp
    omega
  unfold lowI
  rw [Int.toNat_natCast, low_no S m k h2]

set_option maxRecDepth 100000 in
set_option maxHeartbeats 400000 in
theorem on (g m : Nat) (s : Int) (w : World) (h0 : 0 ≤ s) (h1 : s < 4294967296) (hS : IsSh w g m 32) :
    Calls Try.prog 66 #[.pointer (some ⟨g, 0, none⟩), .int .u32 s] w fun e w' => e = .returned (.int .u32 (nulI s m)) ∧ w = w' := by
  have HS := hid hS; clear hS
  go_enter Try.func66, Try.ntmps66
  go_wp2_with fail
  go_loop [5, 6, 7] (fun o _ i => ∃ k : Nat, k ≤ 32 ∧ i = .int .i64 k ∧ o = .int .u32 (lowI s m k)) (fun _ _ i => 32 - (intOf i).toNat)
  case atStart => exact ⟨0, by omega, rfl, ret_q (by unfold lowI; rw [low_zero]; rfl)⟩
  case round =>
    obtain ⟨k, hk, rfl, rfl⟩ := hrel
    by_cases hlt : k < 32
    · have hc := HS.out.cell hlt
      have HO := hid (one_bit s k h0 h1)
      go_wp2
      · have h : (bits .and .u32 (s / 2 ^ k) 1 == 1) = true := by assumption
        rw [HO.out] at h
        have H := hid (lowI_yes s m k h0 h1 hlt (by simpa using h))
        clear h
        go_round
        case rel => exact ⟨k + 1, by omega, by go_num, ret_q H.out⟩
        case measure => simp [intOf]; omega
      · have h : (bits .and .u32 (s / 2 ^ k) 1 == 1) = false := by assumption
        rw [HO.out] at h
        have H := hid (lowI_no s m k h0 (by simpa using h))
        clear h
        go_round
        case rel => exact ⟨k + 1, by omega, by go_num, ret_q H.out⟩
        case measure => simp [intOf]; omega
    · obtain rfl : k = 32 := by omega
      go_wp2
      go_ret
      exact ⟨ret_u32 (by unfold lowI nulI; rw [low_all _ _ (by omega)]), rfl⟩

theorem nul_twice (m k : Nat) : nulI (shI m k) m = shI (2 * m) k := by
  unfold nulI shI
  rw [Int.toNat_natCast, bitAt_twice]

set_option maxRecDepth 100000 in
set_option maxHeartbeats 400000 in
theorem twice (g m : Nat) (w : World) (hS : IsSh w g m 32) :
    Calls Try.prog 67 #[.pointer (some ⟨g, 0, none⟩)] w fun e w' => e = .returned (.agg (shV (2 * m))) ∧ Below w.heap.size w w' := by
  have HI := hid hS; clear hS
  go_enter Try.func67, Try.ntmps67
  go_wp2_with fail
  go_loopw [4, 5] (fun _ i wr => ∃ k : Nat, k ≤ 32 ∧ i = .int .i64 k ∧ Below w.heap.size w wr ∧ wr.heap.size = w.heap.size + 2 ∧ IsRow111 wr w.heap.size ∧ IsSh wr (w.heap.size + 1) (2 * m) k) (fun _ i _ => 32 - (intOf i).toNat)
  case atStart =>
    exact ⟨0, by omega, rfl, ((Below.refl _ _).alloc (Nat.le_refl _) _).alloc (by simp) _, by simp, ⟨_, heap_alloc2_old _ _ _, rfl⟩, isSh_start (heap_alloc2_new _ _ _) rfl⟩
  case round =>
    obtain ⟨k, hk, rfl, hB, hsz, hres, htab⟩ := hrel
    have HW := hid (HI.out.below hB HI.out.lt)
    have HB := hid hB
    have HS := hid hsz
    have HR := hid hres
    have HT := hid htab
    clear hB hsz hres htab
    by_cases hlt : k < 32
    · obtain ⟨v, hv⟩ := HT.out.there k hlt
      have hf := HT.out.free k
      have hc := HW.out.cell hlt
      obtain ⟨b0, b1⟩ := shI_bd m k hlt
      have HE := hid (nul_twice m k)
      obtain ⟨x, hx⟩ : ∃ x : Int, x = shI m k := ⟨_, rfl⟩
      rw [← hx] at hc b0 b1 HE
      clear hx
      go_wp2_with fail
      refine (on g m _ _ b0 b1 HW.out).mono ?_
      rintro e w' ⟨rfl, rfl⟩
      obtain ⟨y, hy⟩ : ∃ y : Int, y = nulI x m := ⟨_, rfl⟩
      have HY := hid (hy.trans HE.out)
      rw [← hy]
      clear hy
      go_wp2_with fail
      go_roundw
      case rel => exact ⟨k + 1, by omega, by go_num, HB.out.setCell (by simp) _, by simpa using HS.out, by
        obtain ⟨z, h1, h2⟩ := HR.out
        exact ⟨z, by rw [heap_setCell_other _ _ _ _ (by simp)]; exact h1, h2⟩, by rw [HY.out]; exact HT.out.set hlt⟩
      case measure => simp [intOf]; omega
    · obtain rfl : k = 32 := by omega
      have hw := HT.out.whole
      obtain ⟨z, hz1, hz2⟩ := HR.out
      go_wp2_with (first | (refine wpList_load_row rfl 111 _ rfl (w.heap.size + 1) rfl 111 (shV (2 * m)) (0, 0) (.array 32 53) hw und111 rfl (by rw [shV_size]; exact size111) ?_) | (refine wpList_store_row rfl 111 _ _ rfl w.heap.size (shV (2 * m)) rfl rfl 111 z hz1 (by rw [shV_size]; exact size111) (by rw [shV_size]; exact hz2) (shV_one _) ?_))
      exact bodyPost_ret (results_cell_row (fn := Try.f67) rfl _ _ w.heap.size 111 (shV (2 * m)) (0, 0) (.array 32 53) rfl (setRow_heap _ _ _ _ _ _ hz1) und111 rfl (by rw [shV_size]; exact size111)) rfl ⟨rfl, below_setRow HB.out (Nat.le_refl _) _⟩

/-- What is known of the world behind 'by := nought()', and round by round. -/
structure Shifted (w W : World) (g m : Nat) : Prop where
  low : w.heap.size ≤ g
  sh : IsSh W g m 32
  below : Below w.heap.size w W

theorem shifted (w w1 : World) (z : Array Value) (hB : Below w.heap.size w w1) : Shifted w ((w1.alloc (.cells z 111)).setRow w1.heap.size (shV 1)) w1.heap.size 1 :=
  ⟨hB.size, isSh_of_row (setRow_heap _ _ _ _ _ _ (heap_alloc_new _ _)), below_setRow (hB.alloc hB.size _) hB.size _⟩

theorem Shifted.next {w W W' : World} {g m : Nat} (h : Shifted w W g m) (hb : Below W.heap.size W W') : Shifted w (W'.setRow g (shV (2 * m))) g (2 * m) := by
  have h1 := (h.sh.below hb h.sh.lt).whole
  exact ⟨h.low, isSh_of_row (setRow_heap _ _ _ _ _ _ h1), below_setRow (h.below.trans (hb.mono h.below.size)) h.low _⟩

/-- How many noughts are gone by. -/
def manyN (n : Int) : Nat := (min (max n 0) 2147483648).toNat
theorem many_le (n : Int) : manyN n ≤ 2147483648 := by unfold manyN; omega

def goneI (s : Int) (n r : Nat) : Int := ((gone s.toNat n r : Nat) : Int)
theorem goneI_bd (s : Int) (n r : Nat) (h0 : 0 ≤ s) (h1 : s < 4294967296) : 0 ≤ goneI s n r ∧ goneI s n r < 4294967296 := by
  have := nuls_lt s.toNat (n % 2 ^ r) (by omega)
  unfold goneI gone; omega
theorem goneI_yes (s : Int) (n r : Nat) (h : n / 2 ^ r % 2 = 1) : nulI (goneI s n r) (2 ^ r) = goneI s n (r + 1) := by
  unfold nulI goneI; rw [Int.toNat_natCast, gone_yes _ _ _ h]
theorem goneI_no (s : Int) (n r : Nat) (h : ¬ n / 2 ^ r % 2 = 1) : goneI s n r = goneI s n (r + 1) := by
  unfold goneI; rw [gone_no _ _ _ h]
theorem goneI_zero (s : Int) (n : Nat) (h0 : 0 ≤ s) : goneI s n 0 = s := by
  unfold goneI; rw [gone_zero]; omega
theorem goneI_end (s : Int) (n r : Nat) (h : n / 2 ^ r = 0) : goneI s n r = nulI s n := by
  unfold goneI nulI; rw [gone_end _ _ _ h]
theorem half_half (n r : Nat) : n / 2 ^ r / 2 = n / 2 ^ (r + 1) := by rw [Nat.pow_succ, Nat.div_div_eq_div_mul]

theorem odd_i64 (x : Nat) (h : x ≤ 2147483648) : bits .and .i64 (x : Int) 1 = ((x % 2 : Nat) : Int) := by
  have h := bits_mask .i64 63 (by decide) (fun n h₀ h₁ => by rw [IntKind.wrap_i64]; omega) 1 (by decide) (x : Int) (by omega) (by omega)
  have e : ((2 : Int) ^ 1 - 1) = 1 := rfl
  rw [e] at h
  rw [h]
  have e2 : ((2 : Int) ^ 1) = 2 := rfl
  rw [e2]; omega
theorem odd_yes (x : Nat) (h : x ≤ 2147483648) (h1 : x % 2 = 1) : (bits .and .i64 (x : Int) 1 == 1) = true := by rw [odd_i64 x h, h1]; rfl
theorem odd_no (x : Nat) (h : x ≤ 2147483648) (h1 : ¬ x % 2 = 1) : (bits .and .i64 (x : Int) 1 == 1) = false := by
  have h2 : x % 2 = 0 := by omega
  rw [odd_i64 x h, h2]; rfl
theorem pow_two_next (r : Nat) : 2 * 2 ^ r = 2 ^ (r + 1) := by rw [Nat.pow_succ, Nat.mul_comm]

set_option maxRecDepth 100000 in
set_option maxHeartbeats 400000 in
theorem noughts (s n : Int) (w : World) (h0 : 0 ≤ s) (h1 : s < 4294967296) (n0 : -9223372036854775808 ≤ n) (n1 : n ≤ 9223372036854775807) :
    Calls Try.prog 40 #[.int .u32 s, .int .i64 n] w fun e w' => e = .returned (.int .u32 (nulI s (manyN n))) ∧ Below w.heap.size w w' := by
  go_enter Try.func40, Try.ntmps40
  go_wp2_with fail
  refine (nought _).mono ?_
  rintro e w1 ⟨rfl, hB1⟩
  have HS := hid (shifted w w1 (Array.replicate 32 (.int .u32 0)) hB1); clear hB1
  go_upto_region 2 with (refine wpList_store_row rfl 111 _ _ rfl w1.heap.size (shV 1) rfl rfl 111 _ (heap_alloc_new _ _) (by rw [shV_size]; exact size111) (by rw [shV_size]; rfl) (shV_one 1) ?_)
  dsimp only [Act.put]
  show Code.wp Try.prog _ _ _ ((w1.alloc (.cells (Array.replicate 32 (.int .u32 0)) 111)).setRow w1.heap.size (shV 1))
  generalize (w1.alloc (.cells (Array.replicate 32 (.int .u32 0)) 111)).setRow w1.heap.size (shV 1) = W at HS ⊢
  generalize w1.heap.size = g at HS ⊢
  have HM := hid (show (manyN n : Int) = min (max n 0) 2147483648 by unfold manyN; omega)
  go_cut [6] (fun s6 wx => s6 = .int .i64 (manyN n : Nat) ∧ wx = W)
  case first =>
    go_wp2
    all_goals go_meet
    all_goals exact ⟨ret_q (by rw [HM.out]; omega), rfl⟩
  case rest =>
    obtain ⟨rfl, rfl⟩ := hcut
    have HL := hid (many_le n)
    generalize hN : manyN n = N at HL ⊢
    have HNN := hid hN
    clear HM n0 n1 hN
    go_wp2_with fail
    go_loopw [0, 6] (fun st l wr => ∃ r : Nat, l = .int .i64 (N / 2 ^ r : Nat) ∧ st = .int .u32 (goneI s N r) ∧ Shifted w wr g (2 ^ r)) (fun _ l _ => (intOf l).toNat)
    case atStart => exact ⟨0, ret_q (by simp), ret_q (goneI_zero s N h0).symm, HS.out⟩
    case round =>
      obtain ⟨r, rfl, rfl, hsh⟩ := hrel
      have HH := hid hsh; clear hsh
      have HE := hid (goneI_end s N r)
      have HY := hid (goneI_yes s N r)
      have HN := hid (goneI_no s N r)
      have HF := hid (half_half N r)
      have hle : N / 2 ^ r ≤ 2147483648 := Nat.le_trans (Nat.div_le_self _ _) HL.out
      obtain ⟨b0, b1⟩ := goneI_bd s N r h0 h1
      generalize N / 2 ^ r = x at HE HY HN HF hle ⊢
      generalize goneI s N r = y at HE HY HN b0 b1 ⊢
      by_cases hp : 0 < x
      · have HP := hid (pow_two_next r)
        by_cases hodd : x % 2 = 1
        · have ho := odd_yes x hle hodd
          have HY2 := hid (HY.out hodd)
          clear hodd
          go_wp2_with (first
            | (go_at_call 66; refine (on g (2 ^ r) y wr b0 b1 HH.out.sh).mono ?_; rintro e w' ⟨rfl, rfl⟩)
            | (go_at_call 67; refine (twice g (2 ^ r) _ HH.out.sh).mono ?_; rintro e w2 ⟨rfl, hB2⟩; have HB2 := hid hB2; have HX := hid (HH.out.next hB2); have HW2 := hid (HH.out.sh.below hB2 HH.out.sh.lt).whole; clear hB2)
            | (refine wpList_store_row rfl 111 _ _ rfl g (shV (2 * 2 ^ r)) rfl rfl 111 (shV (2 ^ r)) HW2.out (by rw [shV_size]; exact size111) (by rw [shV_size, shV_size]) (shV_one _) ?_))
          go_roundw
          case rel => exact ⟨r + 1, ret_q (by have := HF.out; omega), ret_q HY2.out, by have := HX.out; rw [HP.out] at this ⊢; exact this⟩
          case measure => simp [intOf]; omega
        · have ho := odd_no x hle hodd
          have HY2 := hid (HN.out hodd)
          clear hodd
          go_wp2_with (first
            | (go_at_call 66; refine (on g (2 ^ r) y wr b0 b1 HH.out.sh).mono ?_; rintro e w' ⟨rfl, rfl⟩)
            | (go_at_call 67; refine (twice g (2 ^ r) _ HH.out.sh).mono ?_; rintro e w2 ⟨rfl, hB2⟩; have HB2 := hid hB2; have HX := hid (HH.out.next hB2); have HW2 := hid (HH.out.sh.below hB2 HH.out.sh.lt).whole; clear hB2)
            | (refine wpList_store_row rfl 111 _ _ rfl g (shV (2 * 2 ^ r)) rfl rfl 111 (shV (2 ^ r)) HW2.out (by rw [shV_size]; exact size111) (by rw [shV_size, shV_size]) (shV_one _) ?_))
          go_roundw
          case rel => exact ⟨r + 1, ret_q (by have := HF.out; omega), ret_q HY2.out, by have := HX.out; rw [HP.out] at this ⊢; exact this⟩
          case measure => simp [intOf]; omega
      · go_wp2_with fail
        go_ret
        exact ⟨ret_u32 ((HE.out (by omega)).trans (by rw [HNN.out])), HH.out.below⟩

/-- The sum of two texts from theirs. -/
def joinI (a b : Int) (n : Nat) : Int := bits .xor .u32 (nulI a n) b

set_option maxRecDepth 100000 in
theorem join (a b n : Int) (w : World) (h0 : 0 ≤ a) (h1 : a < 4294967296) (n0 : -9223372036854775808 ≤ n) (n1 : n ≤ 9223372036854775807) :
    Calls Try.prog 41 #[.int .u32 a, .int .u32 b, .int .i64 n] w fun e w' => e = .returned (.int .u32 (joinI a b (manyN n))) ∧ Below w.heap.size w w' := by
  go_enter Try.func41, Try.ntmps41
  go_wp2_with fail
  refine (noughts a n _ h0 h1 n0 n1).mono ?_
  rintro e w' ⟨rfl, hB⟩
  have HB := hid hB; clear hB
  go_wp2_with fail
  go_ret
  exact ⟨ret_u32 rfl, HB.out⟩

theorem ofI_xor (l : List UInt8) : ofI l = ((4294967295 ^^^ feedN 4294967295 l : Nat) : Int) := by
  have hl := feed_lt 4294967295 l (by decide)
  have h0 := turned (feedI 4294967295 l) (feedI_bd 4294967295 l (by omega) (by omega)).1 (feedI_bd 4294967295 l (by omega) (by omega)).2
  have e : IntKind.u32.max = ((4294967295 : Nat) : Int) := rfl
  unfold ofI
  rw [← h0, e]
  unfold feedI
  exact bits_xor_u32 4294967295 (feedN (Int.toNat 4294967295) l) (by decide) hl

theorem join_of (l m : List UInt8) : joinI (ofI l) (ofI m) m.length = ofI (l ++ m) := by
  have hl := feed_lt 4294967295 l (by decide)
  have hm := feed_lt 4294967295 m (by decide)
  have hI : (4294967295 : Nat) < 2 ^ 32 := by decide
  unfold joinI nulI
  rw [ofI_xor, ofI_xor, ofI_xor, Int.toNat_natCast,
    bits_xor_u32 _ _ (nuls_lt _ _ (Nat.xor_lt_two_pow hI hl)) (Nat.xor_lt_two_pow hI hm), nuls_xor, feed_append, feed_nuls 4294967295 m, feed_nuls (feedN 4294967295 l) m]
  congr 1
  generalize nuls 4294967295 m.length = a
  generalize nuls (feedN 4294967295 l) m.length = b
  generalize feedN 0 m = c
  apply Nat.eq_of_testBit_eq
  intro i
  simp only [Nat.testBit_xor]
  cases a.testBit i <;> cases b.testBit i <;> cases c.testBit i <;> cases (4294967295 : Nat).testBit i <;> rfl

theorem nulI_next (s : Int) (k : Nat) : byteI (nulI s k) 0 = nulI s (k + 1) := by
  unfold byteI nulI
  rw [Int.toNat_natCast, Int.toNat_zero, nuls_succ]
theorem nulI_zero (s : Int) (h : 0 ≤ s) : nulI s 0 = s := by
  unfold nulI; rw [nuls_zero]; omega

end Go.Proofs.Ythblaceldoikeaa
