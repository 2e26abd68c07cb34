/- WALKS over the sums' table: made, asked, fed. -/
import Derived.Test.YtioejdeghcjfcaaSumW
import Derived.Laws.Rows
namespace Go.Proofs.Ytioejdeghcjfcaa.Sm
set_option linter.unusedVariables false
open Go.RowKit
open Go.Proofs.Crc

/-- The table's number at a place. -/
def tabI (j : Nat) : Int := byteI 0 (j : Int)
/-- The table. -/
def tabV : Array Value := ((List.range 256).map fun j => Value.int .u32 (tabI j)).toArray
theorem tabV_size : tabV.size = 256 := by unfold tabV; simp
theorem tabV_at (j : Nat) (h : j < 256) : tabV[j]? = some (.int .u32 (tabI j)) := by
  unfold tabV
  simp [h]

/-- A block that holds the table's first k numbers. -/
def IsTab (w : World) (g k : Nat) : Prop := ∃ cs : Array Value, w.heap[g]? = some (.cells cs 34 (0, 0)) ∧ cs.size = 256 ∧ ∀ j, j < k → cs[j]? = some (.int .u32 (tabI j))

theorem IsTab.cell {w : World} {g k j : Nat} (h : IsTab w g k) (hj : j < k) : w.cell? ⟨g, j, none⟩ = some (.int .u32 (tabI j)) := by
  obtain ⟨cs, hg, _, hc⟩ := h
  rw [cell_of_row w g j cs 34 (0, 0) hg, hc j hj]

theorem IsTab.below {w w' : World} {B g k : Nat} (h : IsTab w g k) (hb : Below B w w') (hg : g < B) : IsTab w' g k := by
  obtain ⟨cs, h1, h2⟩ := h
  exact ⟨cs, by rw [hb.block g hg]; exact h1, h2⟩

/-- 256 noughts. -/
def zc34 : Array Value := Array.replicate 256 (.int .u32 0)
theorem zero56_size : zc34.size = 256 := by unfold zc34; simp
theorem zc34_ne : zc34 ≠ #[] := fun h => by have := zero56_size; rw [h] at this; cases this
theorem zv34 (w : World) : (zeroValue 34).run Try.prog w = .ok (.agg zc34) w := by kernel_rfl
attribute [local go_sem] zv34 zc34_ne
theorem und56 : Try.prog.underlying 34 = some (.array 256 22) := by kernel_rfl
theorem size56 : (Try.prog.info? 34).map (·.size) = some 256 := by kernel_rfl

theorem below_setRow {B : Nat} {a w : World} (h : Below B a w) {g : Nat} (hg : B ≤ g) (cs : Array Value) : Below B a (w.setRow g cs) :=
  h.trans ⟨rfl, rfl, rfl, by simp, fun k hk => setRow_other w g k cs (by omega)⟩

theorem IsTab.set {w : World} {g k : Nat} (h : IsTab w g k) (hk : k < 256) : IsTab (w.setCell ⟨g, k, none⟩ (.int .u32 (tabI k))) g (k + 1) := by
  obtain ⟨cs, h1, h2, h3⟩ := h
  refine ⟨cs.setIfInBounds k (.int .u32 (tabI k)), heap_setCell_same w g k cs 34 _ h1, by simpa using h2, ?_⟩
  intro j hj
  rw [Array.getElem?_setIfInBounds]
  by_cases e : k = j
  · subst e; simp [h2, hk]
  · rw [if_neg e]; exact h3 j (by omega)

theorem IsTab.there {w : World} {g k : Nat} (h : IsTab w g k) (hk : k < 256) : ∃ v, w.cell? ⟨g, k, none⟩ = some v := by
  obtain ⟨cs, h1, h2, h3⟩ := h
  exact ⟨cs[k], by rw [cell_of_row w g k cs 34 (0, 0) h1]; simp [h2, hk]⟩

theorem IsTab.free {w : World} {g k : Nat} (h : IsTab w g k) (j : Nat) : w.frozen? ⟨g, j, none⟩ = false := by
  obtain ⟨cs, h1, h2, h3⟩ := h
  exact frozen_of_row w g j cs 34 h1

theorem IsTab.whole {w : World} {g : Nat} (h : IsTab w g 256) : w.heap[g]? = some (.cells tabV 34 (0, 0)) := by
  obtain ⟨cs, h1, h2, h3⟩ := h
  have : cs = tabV := by
    apply Array.ext_getElem?
    intro j
    by_cases hj : j < 256
    · rw [h3 j hj, tabV_at j hj]
    · rw [Array.getElem?_eq_none (by omega), Array.getElem?_eq_none (by rw [tabV_size]; omega)]
  rw [h1, this]

theorem tabV_one : tabV.all (·.oneCell') = true := by
  rw [Array.all_eq_true_iff_forall_mem]
  intro x hx
  unfold tabV at hx
  simp at hx
  obtain ⟨j, _, rfl⟩ := hx
  rfl

theorem isTab_start {w : World} {g : Nat} {z : Array Value} (h : w.heap[g]? = some (.cells z 34 (0, 0))) (hz : z.size = 256) : IsTab w g 0 := ⟨z, h, hz, fun j hj => by omega⟩

/-- A block of 256 numbers. -/
def IsRow56 (w : World) (g : Nat) : Prop := ∃ z, w.heap[g]? = some (.cells z 34 (0, 0)) ∧ z.size = 256

set_option maxRecDepth 100000 in
set_option maxHeartbeats 400000 in
theorem made (w : World) :
    Calls Try.prog 12 #[] w fun e w' => e = .returned (.agg tabV) ∧ Below w.heap.size w w' := by
  have hz := hid zero56_size
  go_enter Try.func12, Try.ntmps12
  go_wp2_with fail
  go_loopw [2, 3] (fun _ i wr => ∃ k : Nat, k ≤ 256 ∧ i = .int .i64 k ∧ Below w.heap.size w wr ∧ wr.heap.size = w.heap.size + 2 ∧ IsRow56 wr w.heap.size ∧ IsTab wr (w.heap.size + 1) k) (fun _ i _ => 256 - (intOf i).toNat)
  case atStart =>
    exact ⟨0, by omega, rfl, ((Below.refl _ _).alloc (Nat.le_refl _) _).alloc (by simp) _, by simp, ⟨_, heap_alloc2_old _ _ _, hz.out⟩, isTab_start (heap_alloc2_new _ _ _) hz.out⟩
  case round =>
    obtain ⟨k, hk, rfl, hB, hsz, hres, htab⟩ := hrel
    have HB := hid hB
    have HS := hid hsz
    have HR := hid hres
    have HT := hid htab
    clear hB hsz hres htab
    by_cases hlt : k < 256
    · have hc := HT.out.there hlt
      have hf := HT.out.free k
      obtain ⟨v, hv⟩ := hc
      go_wp2_with (go_at_call 17; refine (behindI 0 _ _ (by omega) (by omega) (by omega) (by omega)).mono ?_; rintro e w' ⟨rfl, rfl⟩)
      go_roundw
      case rel => exact ⟨k + 1, by omega, by go_num, HB.out.setCell (by simp) _, by simpa using HS.out, by
        obtain ⟨z, h1, h2⟩ := HR.out
        exact ⟨z, by rw [heap_setCell_other _ _ _ _ (by simp)]; exact h1, h2⟩, HT.out.set hlt⟩
      case measure => simp [intOf]; omega
    · obtain rfl : k = 256 := by omega
      have hw := HT.out.whole
      obtain ⟨z, hz1, hz2⟩ := HR.out
      go_wp2_with (first | (refine wpList_load_row rfl 34 _ rfl (w.heap.size + 1) rfl 34 tabV (0, 0) (.array 256 22) hw und56 rfl (by rw [tabV_size]; exact size56) ?_) | (refine wpList_store_row rfl 34 _ _ rfl w.heap.size tabV rfl rfl 34 z hz1 (by rw [tabV_size]; exact size56) (by rw [tabV_size]; exact hz2) tabV_one ?_))
      exact bodyPost_ret (results_cell_row (fn := Try.f12) rfl _ _ w.heap.size 34 tabV (0, 0) (.array 256 22) rfl (setRow_heap _ _ _ _ _ _ hz1) und56 rfl (by rw [tabV_size]; exact size56)) rfl ⟨rfl, below_setRow HB.out (Nat.le_refl _) _⟩

theorem bits_xor_u8 (a b : Nat) (ha : a < 2 ^ 8) (hb : b < 2 ^ 8) : bits .xor .u8 (a : Int) (b : Int) = ((a ^^^ b : Nat) : Int) := by
  show IntKind.u8.wrap ((BitVec.ofInt 8 (a : Int) ^^^ BitVec.ofInt 8 (b : Int)).toNat : Int) = _
  have hx : a ^^^ b < 2 ^ 8 := Nat.xor_lt_two_pow ha hb
  rw [BitVec.toNat_xor, BitVec.ofInt_natCast, BitVec.ofInt_natCast, BitVec.toNat_ofNat, BitVec.toNat_ofNat, Nat.mod_eq_of_lt ha, Nat.mod_eq_of_lt hb, IntKind.wrap_u8]
  omega

/-- The place in the table. -/
def placeN (s b : Int) : Nat := (s.toNat % 256) ^^^ b.toNat

theorem place_lt (s b : Int) (hb : b < 256) : placeN s b < 256 := Nat.xor_lt_two_pow (n := 8) (by omega) (by omega)

theorem place_bits (s b : Int) (h0 : 0 ≤ s) (hb0 : 0 ≤ b) (hb : b < 256) : bits .xor .u8 (s % 256) b = (placeN s b : Int) := by
  obtain ⟨S, rfl⟩ := Int.eq_ofNat_of_zero_le h0
  obtain ⟨B, rfl⟩ := Int.eq_ofNat_of_zero_le hb0
  have e : ((S : Int) % 256) = ((S % 256 : Nat) : Int) := by omega
  rw [e, bits_xor_u8 _ _ (by omega) (by omega)]
  rfl

theorem step_num (s b : Int) (h0 : 0 ≤ s) (h1 : s < 4294967296) (hb0 : 0 ≤ b) (hb : b < 256) : bits .xor .u32 (tabI (placeN s b)) (s / 256) = byteI s b := by
  obtain ⟨S, rfl⟩ := Int.eq_ofNat_of_zero_le h0
  obtain ⟨B, rfl⟩ := Int.eq_ofNat_of_zero_le hb0
  unfold tabI placeN byteI
  simp only [Int.toNat_natCast, Int.toNat_zero]
  have hl := byte_lt 0 ((S % 256) ^^^ B) (by decide)
  have e := bits_xor_u32 (byteN 0 ((S % 256) ^^^ B)) (S / 256) hl (by omega)
  rw [byte_table S B (by omega)]
  exact e

set_option maxRecDepth 100000 in
set_option maxHeartbeats 400000 in
theorem step (g : Nat) (s b : Int) (w : World) (h0 : 0 ≤ s) (h1 : s < 4294967296) (hb0 : 0 ≤ b) (hb : b < 256) (ht : IsTab w g 256) :
    Calls Try.prog 18 #[.pointer (some ⟨g, 0, none⟩), .int .u32 s, .int .u8 b] w fun e w' => e = .returned (.int .u32 (byteI s b)) ∧ w = w' := by
  have hpl := place_lt s b hb
  have hc := ht.cell hpl
  have hp := place_bits s b h0 hb0 hb
  have HN := hid (step_num s b h0 h1 hb0 hb)
  have HT := hid ht; clear ht
  obtain ⟨j, hj⟩ : ∃ j, j = placeN s b := ⟨_, rfl⟩
  obtain ⟨t, ht⟩ : ∃ t, t = tabI j := ⟨_, rfl⟩
  rw [← hj] at hpl hc hp HN
  rw [← ht] at hc HN
  clear hj ht
  go_enter Try.func18, Try.ntmps18
  go_wp2
  go_ret
  exact ⟨ret_u32 HN.out, rfl⟩

theorem step_nil (s b : Int) (w : World) :
    Calls Try.prog 18 #[.pointer none, .int .u32 s, .int .u8 b] w fun e w' => e = .returned (.int .u32 s) ∧ w = w' := by
  go_enter Try.func18, Try.ntmps18
  go_wp2
  go_ret
  exact ⟨rfl, rfl⟩

/-- What a step makes of a text. -/
def feedP (φ : Int → Int → Int) (st : Int) (l : List UInt8) : Int := l.foldl (fun s c => φ s (c.toNat : Int)) st
/-- .. of texts. -/
def feedAll (φ : Int → Int → Int) (st : Int) (ss : List ByteArray) : Int := ss.foldl (fun s t => feedP φ s t.data.toList) st

theorem feedP_snoc (φ : Int → Int → Int) (st : Int) (l : List UInt8) (c : UInt8) : feedP φ st (l ++ [c]) = φ (feedP φ st l) (c.toNat : Int) := by simp [feedP]
theorem feedAll_snoc (φ : Int → Int → Int) (st : Int) (ss : List ByteArray) (t : ByteArray) : feedAll φ st (ss ++ [t]) = feedP φ (feedAll φ st ss) t.data.toList := by simp [feedAll]

/-- A step keeps to 32 bits. -/
def Keeps (φ : Int → Int → Int) : Prop := ∀ s b, 0 ≤ s → s < 4294967296 → 0 ≤ φ s b ∧ φ s b < 4294967296

theorem feedP_bd {φ : Int → Int → Int} (h : Keeps φ) (l : List UInt8) : ∀ st, 0 ≤ st → st < 4294967296 → 0 ≤ feedP φ st l ∧ feedP φ st l < 4294967296 := by
  induction l with
  | nil => intro st a b; exact ⟨a, b⟩
  | cons c l ih =>
    intro st a b
    obtain ⟨x, y⟩ := h st (c.toNat : Int) a b
    exact ih _ x y

theorem feedAll_bd {φ : Int → Int → Int} (h : Keeps φ) (ss : List ByteArray) : ∀ st, 0 ≤ st → st < 4294967296 → 0 ≤ feedAll φ st ss ∧ feedAll φ st ss < 4294967296 := by
  induction ss with
  | nil => intro st a b; exact ⟨a, b⟩
  | cons c l ih =>
    intro st a b
    obtain ⟨x, y⟩ := feedP_bd h c.data.toList st a b
    exact ih _ x y

/-- Texts that lie in a row. -/
def TextsAt (w : World) (L : Nat) (ss : List ByteArray) : Prop := ∀ i (h : i < ss.length), w.cell? ⟨L, i, none⟩ = some (.string ss[i]) ∧ ss[i].size ≤ maxLen

/-- The step's contract in one world. -/
def StepIs (p : Value) (φ : Int → Int → Int) (w : World) : Prop := ∀ s b : Int, 0 ≤ s → s < 4294967296 → 0 ≤ b → b < 256 →
    Calls Try.prog 18 #[p, .int .u32 s, .int .u8 b] w fun e w' => e = .returned (.int .u32 (φ s b)) ∧ w = w'

set_option maxRecDepth 100000 in
set_option maxHeartbeats 400000 in
theorem feed (p : Value) (φ : Int → Int → Int) (hφ : Keeps φ) (st : Int) (L cap : Nat) (ss : List ByteArray) (w : World) (h0 : 0 ≤ st) (h1 : st < 4294967296) (hl : ss.length ≤ maxLen) (ht : TextsAt w L ss) (hs : StepIs p φ w) :
    Calls Try.prog 14 #[p, .int .u32 st, .slice (some ⟨L, 0, none⟩) ss.length cap] w fun e w' => e = .returned (.int .u32 (feedAll φ st ss)) ∧ w = w' := by
  have HT := hid ht; clear ht
  have HS := hid hs; clear hs
  have HK := hid hφ; clear hφ
  unfold maxLen at hl
  go_enter Try.func14, Try.ntmps14
  go_wp2_with fail
  go_loop [1, 8, 9, 12, 16, 17, 18] (fun x _ _ i _ _ _ => ∃ k : Nat, k ≤ ss.length ∧ i = .int .i64 k ∧ x = .int .u32 (feedAll φ st (ss.take k))) (fun _ _ _ i _ _ _ => ss.length - (intOf i).toNat)
  case atStart => exact ⟨0, by omega, rfl, rfl⟩
  case round =>
    obtain ⟨k, hk, rfl, rfl⟩ := hrel
    obtain ⟨hb1, hb2⟩ := feedAll_bd HK.out (ss.take k) st h0 h1
    by_cases hlt : k < ss.length
    · obtain ⟨hc, hm⟩ := HT.out k hlt
      have HA := hid (show feedAll φ st (ss.take (k + 1)) = feedP φ (feedAll φ st (ss.take k)) (ss[k]).data.toList by
        rw [List.take_succ_eq_append_getElem hlt, feedAll_snoc])
      obtain ⟨t, ht⟩ : ∃ t, t = ss[k] := ⟨_, rfl⟩
      rw [← ht] at hc hm HA
      clear ht
      obtain ⟨a, ha⟩ : ∃ a, a = feedAll φ st (ss.take k) := ⟨_, rfl⟩
      rw [← ha] at HA hb1 hb2 ⊢
      clear ha
      unfold maxLen at hm
      go_wp2_with fail
      go_loop [1, 9, 18] (fun x _ i => ∃ m : Nat, m ≤ t.size ∧ i = .int .i64 m ∧ x = .int .u32 (feedP φ a (t.data.toList.take m))) (fun _ _ i => t.size - (intOf i).toNat)
      case atStart => exact ⟨0, by omega, rfl, rfl⟩
      case round =>
        obtain ⟨m, hmm, rfl, rfl⟩ := hrel
        obtain ⟨hc1, hc2⟩ := feedP_bd HK.out (t.data.toList.take m) a hb1 hb2
        by_cases hlt2 : m < t.size
        · have HQ := hid (show feedP φ a (t.data.toList.take (m + 1)) = φ (feedP φ a (t.data.toList.take m)) (t[m].toNat : Int) by
            rw [take_snoc t m hlt2, feedP_snoc])
          go_wp2_with (go_at_call 18; refine (HS.out _ _ hc1 hc2 (by omega) (by have := UInt8.toNat_lt t[m]; omega)).mono ?_; rintro e w' ⟨rfl, rfl⟩)
          go_round
          case rel => exact ⟨m + 1, by omega, by go_num, ret_q HQ.out.symm⟩
          case measure => simp [intOf]; omega
        · go_wp2_with fail
          go_round
          case rel => exact ⟨k + 1, by omega, by go_num, ret_q (by rw [HA.out, List.take_of_length_le (by simp; omega)])⟩
          case measure => simp [intOf]; omega
    · go_wp2_with fail
      go_ret
      exact ⟨ret_u32 (by rw [List.take_of_length_le (by omega)]), rfl⟩
end Go.Proofs.Ytioejdeghcjfcaa.Sm
