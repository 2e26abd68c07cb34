/- WALKS over the program's own sum of a text. -/
import Derived.Test.YtioejdeghcjfcaaSumT
namespace Go.Proofs.Ytioejdeghcjfcaa.Sm
set_option linter.unusedVariables false
open Go.RowKit
open Go.Proofs.Crc

attribute [local go_sem] zv34 zc34_ne
theorem keeps_byte : Keeps byteI := fun s b h0 h1 => byteI_bd s b h0 h1
theorem keeps_nil : Keeps (fun s _ => s) := fun _ _ h0 h1 => ⟨h0, h1⟩

theorem feedP_byte (st : Int) (l : List UInt8) (h0 : 0 ≤ st) (h1 : st < 4294967296) : feedP byteI st l = feedI st l := by
  induction l generalizing st with
  | nil => rw [feedI_nil _ h0]; rfl
  | cons c l ih =>
    obtain ⟨a, b⟩ := byteI_bd st (c.toNat : Int) h0 h1
    have := ih _ a b
    have e : feedP byteI st (c :: l) = feedP byteI (byteI st (c.toNat : Int)) l := rfl
    rw [e, this]
    unfold feedI byteI
    rw [Int.toNat_natCast, Int.toNat_natCast]; rfl

theorem feedP_nil (st : Int) (l : List UInt8) : feedP (fun s _ => s) st l = st := by
  induction l with
  | nil => rfl
  | cons c l ih => exact ih

theorem feedAll_nil (st : Int) (ss : List ByteArray) : feedAll (fun s _ => s) st ss = st := by
  induction ss with
  | nil => rfl
  | cons c l ih =>
    have e : feedAll (fun s _ => s) st (c :: l) = feedAll (fun s _ => s) (feedP (fun s _ => s) st c.data.toList) l := rfl
    rw [e, feedP_nil, ih]

theorem step_is (g : Nat) (w : World) (ht : IsTab w g 256) : StepIs (.pointer (some ⟨g, 0, none⟩)) byteI w := fun s b a1 a2 a3 a4 => step g s b w a1 a2 a3 a4 ht
theorem step_is_nil (w : World) : StepIs (.pointer none) (fun s _ => s) w := fun s b _ _ _ _ => step_nil s b w

theorem begin_ (w : World) : Calls Try.prog 15 #[] w fun e w' => e = .returned (.int .u32 4294967295) ∧ w = w' := by
  go_enter Try.func15, Try.ntmps15
  go_wp2
  go_ret
  exact ⟨rfl, rfl⟩

theorem turned (s : Int) (h0 : 0 ≤ s) (h1 : s < 4294967296) : bits .xor .u32 IntKind.u32.max s = 4294967295 - s := by
  obtain ⟨S, rfl⟩ := Int.eq_ofNat_of_zero_le h0
  have e : IntKind.u32.max = ((4294967295 : Nat) : Int) := rfl
  rw [e, bits_xor_u32 _ _ (by decide) (by omega)]
  have h : (4294967295 ^^^ S) + S = 4294967295 := by
    have hs : S < 2 ^ 32 := by omega
    have h3 : (BitVec.allOnes 32 ^^^ BitVec.ofNat 32 S) = ~~~ (BitVec.ofNat 32 S) := BitVec.allOnes_xor
    have h4 := congrArg BitVec.toNat h3
    rw [BitVec.toNat_xor, BitVec.toNat_not, BitVec.toNat_allOnes, BitVec.toNat_ofNat, Nat.mod_eq_of_lt hs] at h4
    have h5 : (4294967295 ^^^ S) = 2 ^ 32 - 1 - S := h4
    omega
  omega

set_option maxRecDepth 100000 in
theorem end_ (s : Int) (w : World) (h0 : 0 ≤ s) (h1 : s < 4294967296) : Calls Try.prog 13 #[.int .u32 s] w fun e w' => e = .returned (.int .u32 (4294967295 - s)) ∧ w = w' := by
  go_enter Try.func13, Try.ntmps13
  go_wp2
  go_ret
  exact ⟨ret_u32 (turned s h0 h1), rfl⟩

theorem isTab_made (w1 : World) : IsTab ((w1.alloc (.cells zc34 34)).setRow w1.heap.size tabV) w1.heap.size 256 :=
  ⟨tabV, setRow_heap _ _ _ _ _ _ (heap_alloc_new _ _), tabV_size, tabV_at⟩

theorem IsTab.lt {w : World} {g k : Nat} (h : IsTab w g k) : g < w.heap.size := by
  obtain ⟨cs, h1, _⟩ := h
  exact (Array.getElem?_eq_some_iff.1 h1).1

theorem IsTab.alloc {w : World} {g k : Nat} (h : IsTab w g k) (o : Obj) : IsTab (w.alloc o) g k := by
  have hl := h.lt
  obtain ⟨cs, h1, h2⟩ := h
  exact ⟨cs, by rw [Below.heap_alloc _ _ _ hl]; exact h1, h2⟩

theorem texts_one (W : World) (s : ByteArray) (hs : s.size ≤ maxLen) : TextsAt (W.alloc (.cells #[.string s] 9)) W.heap.size [s] := by
  intro i h
  have : i = 0 := by simp at h; omega
  subst this
  exact ⟨by rw [cell_of_row _ _ _ _ _ _ (heap_alloc_new _ _)]; rfl, hs⟩

theorem texts_two (W : World) (s u : ByteArray) (hs : s.size ≤ maxLen) (hu : u.size ≤ maxLen) : TextsAt (W.alloc (.cells #[.string s, .string u] 9)) W.heap.size [s, u] := by
  intro i h
  have : i = 0 ∨ i = 1 := by simp at h; omega
  rcases this with rfl | rfl
  · exact ⟨by rw [cell_of_row _ _ _ _ _ _ (heap_alloc_new _ _)]; rfl, hs⟩
  · exact ⟨by rw [cell_of_row _ _ _ _ _ _ (heap_alloc_new _ _)]; rfl, hu⟩

/-- What is known of the world behind 't := Made()'. -/
structure Tabled (w W : World) (g : Nat) : Prop where
  low : w.heap.size ≤ g
  tab : IsTab W g 256
  below : Below w.heap.size w W
  size : W.heap.size = g + 1

theorem tabled (w w1 : World) (hB : Below w.heap.size w w1) : Tabled w ((w1.alloc (.cells zc34 34)).setRow w1.heap.size tabV) w1.heap.size :=
  ⟨hB.size, isTab_made w1, below_setRow (hB.alloc hB.size _) hB.size _, by simp⟩

set_option maxRecDepth 100000 in
set_option maxHeartbeats 400000 in
theorem of_ (s : ByteArray) (w : World) (hs : s.size ≤ maxLen) :
    Calls Try.prog 10 #[.string s] w fun e w' => e = .returned (.int .u32 (ofI s.data.toList)) ∧ Below w.heap.size w w' := by
  have hz := hid zero56_size
  obtain ⟨hb1, hb2⟩ := feedI_bd 4294967295 s.data.toList (by omega) (by omega)
  go_enter Try.func10, Try.ntmps10
  go_wp2_with fail
  refine (made _).mono ?_
  rintro e w1 ⟨rfl, hB1⟩
  have HT := hid (tabled w w1 hB1); clear hB1
  go_wp2_with (refine wpList_store_row rfl 34 _ _ rfl w1.heap.size tabV rfl rfl 34 zc34 (heap_alloc_new _ _) (by rw [tabV_size]; exact size56) (by rw [tabV_size]; exact hz.out) tabV_one ?_)
  refine (begin_ _).mono ?_
  rintro e w2 ⟨rfl, rfl⟩
  generalize (w1.alloc (.cells zc34 34)).setRow w1.heap.size tabV = W at HT ⊢
  generalize w1.heap.size = g at HT ⊢
  have hsz := HT.out.size
  go_wp2_with fail
  refine (feed (.pointer (some ⟨g, 0, none⟩)) byteI keeps_byte 4294967295 (g + 1) 1 [s] _ (by omega) (by omega) (by simp [maxLen]) (by have := texts_one W s hs; rw [hsz] at this; exact this) (step_is g _ (HT.out.tab.alloc _))).mono ?_
  rintro e w2 ⟨rfl, rfl⟩
  have e1 : feedAll byteI 4294967295 [s] = feedI 4294967295 s.data.toList := feedP_byte _ _ (by omega) (by omega)
  rw [e1]; clear e1
  go_wp2_with fail
  refine (end_ _ _ hb1 hb2).mono ?_
  rintro e w2 ⟨rfl, rfl⟩
  go_wp2_with fail
  go_ret
  exact ⟨rfl, HT.out.below.alloc (by have := HT.out.low; omega) _⟩

end Go.Proofs.Ytioejdeghcjfcaa.Sm
