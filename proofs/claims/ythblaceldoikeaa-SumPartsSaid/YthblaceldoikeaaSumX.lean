/- SumParts: the walk. -/
import Derived.Test.YthblaceldoikeaaSumQ
import Derived.Test.YthblaceldoikeaaSumN
import Derived.Test.YthblaceldoikeaaSumL
import Derived.Deep.QuietTactic
import Derived.BigQuiet
import Derived.Deep.RegionHeld3
import Derived.Deep.DrawnRows
import Derived.Deep.DeepCutAuto
import Derived.Deep.AppendLies
import Derived.Test.YthblaceldoikeaaFieldV
namespace Go.Proofs.Ythblaceldoikeaa
set_option linter.unusedVariables false
open Go.RowKit
open Go.Proofs.Crc
attribute [local go_sem ↓] Go.wp_at_zero Go.wp_at_succ

/-- The state behind a text, and its sum. -/
def fdB (st : Int) (A : ByteArray) : Int := feedI st A.data.toList
def ofB (A : ByteArray) : Int := ofI A.data.toList

theorem ofB_bd (A : ByteArray) : 0 ≤ ofB A ∧ ofB A < 4294967296 := by
  have := feedI_bd 4294967295 A.data.toList (by omega) (by omega)
  unfold ofB ofI; omega
theorem fdB_bd (st : Int) (A : ByteArray) (h0 : 0 ≤ st) (h1 : st < 4294967296) : 0 ≤ fdB st A ∧ fdB st A < 4294967296 := feedI_bd _ _ h0 h1
theorem joinB (A B : ByteArray) (h : B.size ≤ 1000) : joinI (ofB A) (ofB B) (manyN (B.size : Int)) = ofB (A ++ B) := by
  have e : manyN (B.size : Int) = B.data.toList.length := by unfold manyN; simp; omega
  unfold ofB
  rw [e, join_of, add_bytes]

theorem end_to (x y : Int) (w : World) (h0 : 0 ≤ x) (h1 : x < 4294967296) (h : 4294967295 - x = y) : Calls Try.prog 38 #[.int .u32 x] w fun e w' => e = .returned (.int .u32 y) ∧ w = w' := by
  subst h
  exact end_ x w h0 h1

theorem feed_tab1 (g L cap : Nat) (st : Int) (A : ByteArray) (w : World) (h0 : 0 ≤ st) (h1 : st < 4294967296) (hT : IsTab w g 256) (ht : TextsAt w L [A]) :
    Calls Try.prog 33 #[.pointer (some ⟨g, 0, none⟩), .int .u32 st, .slice (some ⟨L, 0, none⟩) 1 cap] w fun e w' => e = .returned (.int .u32 (fdB st A)) ∧ w = w' := by
  refine (feed (.pointer (some ⟨g, 0, none⟩)) byteI keeps_byte st L cap [A] w h0 h1 (by simp [maxLen]) ht (step_is g w hT)).mono ?_
  rintro e w' ⟨rfl, rfl⟩
  exact ⟨ret_u32 (feedP_byte st _ h0 h1), rfl⟩

theorem ofB_is (A : ByteArray) (w : World) (h : A.size ≤ maxLen) : Calls Try.prog 35 #[.string A] w fun e w' => e = .returned (.int .u32 (ofB A)) ∧ Below w.heap.size w w' := of_ A w h

theorem end_fd (A B C : ByteArray) (e : A ++ B = C) : 4294967295 - fdB (fdB 4294967295 A) B = ofB C := by
  subst e
  have := feedI_bd 4294967295 A.data.toList (by omega) (by omega)
  unfold fdB ofB ofI
  rw [add_bytes]
  unfold feedI
  rw [feed_append, Int.toNat_natCast]

theorem TextsAt.alloc {w : World} {L : Nat} {ss : List ByteArray} (h : TextsAt w L ss) (hL : L < w.heap.size) (o : Obj) : TextsAt (w.alloc o) L ss := by
  intro i hi
  obtain ⟨h1, h2⟩ := h i hi
  exact ⟨by rw [← h1]; exact World.cell?_of_block (Below.heap_alloc w o L hL), h2⟩

theorem join_to (a b n y : Int) (w : World) (a0 : 0 ≤ a) (a1 : a < 4294967296) (n0 : -9223372036854775808 ≤ n) (n1 : n ≤ 9223372036854775807) (h : joinI a b (manyN n) = y) :
    Calls Try.prog 41 #[.int .u32 a, .int .u32 b, .int .i64 n] w fun e w' => e = .returned (.int .u32 y) ∧ Below w.heap.size w w' := by
  subst h
  exact join a b n w a0 a1 n0 n1

theorem cut_at (s : ByteArray) (k : Nat) (hk : k ≤ s.size) : s.extract 0 k ++ s.extract k s.size = s := by
  apply ByteArray.ext
  apply Array.ext'
  simp

theorem join_cut (A : ByteArray) (K : Nat) (w : World) (hK : K ≤ A.size) (hA : A.size ≤ 1000) :
    Calls Try.prog 41 #[.int .u32 (ofB (A.extract 0 K)), .int .u32 (ofB (A.extract K A.size)), .int .i64 (IntKind.i64.wrap ((A.size : Int) - (K : Int)))] w fun e w' => e = .returned (.int .u32 (ofB A)) ∧ Below w.heap.size w w' := by
  have hb := ofB_bd (A.extract 0 K)
  have hw : IntKind.i64.wrap ((A.size : Int) - (K : Int)) = (A.size : Int) - (K : Int) := by rw [IntKind.wrap_i64]; omega
  have e := joinB (A.extract 0 K) (A.extract K A.size) (by rw [ByteArray.size_extract]; omega)
  rw [cut_at A K hK] at e
  have e2 : (((A.extract K A.size).size : Nat) : Int) = (A.size : Int) - (K : Int) := by rw [ByteArray.size_extract]; omega
  rw [e2] at e
  rw [hw]
  exact join_to _ _ _ _ w hb.1 hb.2 (by omega) (by omega) e

/-- Two rows of bytes of the call's own, no one in the other's place. -/
structure Pair (b0 : Nat) (A B : ByteArray) (k : Nat) (m o : Value) (w : World) : Prop where
  mix : w.ownsRow b0 5 1 m k (Fld.byteCells (mixL (A.data.toList.take k) (B.data.toList.take k)))
  oth : w.ownsRow b0 5 1 o k (Fld.byteCells (List.replicate k 0))
  apart : ∀ x, m.ownBlock = some x → o.ownBlock = some x → False

theorem pair_start (b0 : Nat) (A B : ByteArray) (w : World) : Pair b0 A B 0 (.slice none 0 0) (.slice none 0 0) w :=
  ⟨World.ownsRow_nil _ _ _ _, World.ownsRow_nil _ _ _ _, fun x h => by simp [Value.ownBlock] at h⟩

theorem mix_next (A B : ByteArray) (k : Nat) (hA : k < A.size) (hB : k < B.size) :
    mixL (A.data.toList.take (k + 1)) (B.data.toList.take (k + 1)) = mixL (A.data.toList.take k) (B.data.toList.take k) ++ [A[k] ^^^ B[k]] := by
  rw [take_snoc A k hA, take_snoc B k hB]
  unfold mixL
  rw [List.zipWith_append (by simp; omega)]
  rfl

theorem mix_cell (A B : ByteArray) (k : Nat) (hA : k < A.size) (hB : k < B.size) : bits .xor .u8 ((A[k]).toNat : Int) ((B[k]).toNat : Int) = ((A[k] ^^^ B[k]).toNat : Int) := by
  rw [bits_xor_u8 _ _ (UInt8.toNat_lt _) (UInt8.toNat_lt _), mix_byte]

/-- Between the two appends. -/
structure Mid (b0 : Nat) (A B : ByteArray) (k : Nat) (m o : Value) (w : World) : Prop where
  mix : w.ownsRow b0 5 1 m (k + 1) (Fld.byteCells (mixL (A.data.toList.take (k + 1)) (B.data.toList.take (k + 1))))
  oth : w.ownsRow b0 5 1 o k (Fld.byteCells (List.replicate k 0))
  apart : ∀ x, m.ownBlock = some x → o.ownBlock = some x → False

theorem Pair.mid {b0 : Nat} {A B : ByteArray} {k g cap : Nat} {m o : Value} {wr c w1 : World} (h : Pair b0 A B k m o wr) (hA : k < A.size) (hB : k < B.size) (hc : c.ownsRow b0 5 1 o k (Fld.byteCells (List.replicate k 0)))
    (hown : w1.ownsRow b0 5 1 (.slice (some ⟨g, 0, none⟩) (k + 1) cap) (k + 1) (Fld.byteCells (mixL (A.data.toList.take k) (B.data.toList.take k)) ++ [.int .u8 ((A[k] ^^^ B[k]).toNat : Int)]))
    (hg : c.grownBy w1 m.ownBlock) (hat : m.ownBlock = some g ∨ g = wr.heap.size + 1) : Mid b0 A B k (.slice (some ⟨g, 0, none⟩) (k + 1) cap) o w1 := by
  refine ⟨?_, ?_, ?_⟩
  · rw [mix_next A B k hA hB, Fld.byteCells_append]; exact hown
  · refine hc.kept hg ?_
    cases e : o.ownBlock with
    | none => exact .inl rfl
    | some x => exact .inr fun e2 => h.apart x e2.symm e
  · intro x hx ho
    simp only [Value.ownBlock, Option.some.injEq] at hx
    subst hx
    rcases hat with h1 | h1
    · exact h.apart _ h1 ho
    · have := (h.oth.lt _ ho).2
      omega

theorem Mid.next {b0 : Nat} {A B : ByteArray} {k g cap : Nat} {m o : Value} {wr c w1 : World} (h : Mid b0 A B k m o wr) (hc : c.ownsRow b0 5 1 m (k + 1) (Fld.byteCells (mixL (A.data.toList.take (k + 1)) (B.data.toList.take (k + 1)))))
    (hown : w1.ownsRow b0 5 1 (.slice (some ⟨g, 0, none⟩) (k + 1) cap) (k + 1) (Fld.byteCells (List.replicate k 0) ++ [.int .u8 0]))
    (hg : c.grownBy w1 o.ownBlock) (hat : o.ownBlock = some g ∨ g = wr.heap.size + 1) : Pair b0 A B (k + 1) m (.slice (some ⟨g, 0, none⟩) (k + 1) cap) w1 := by
  refine ⟨?_, ?_, ?_⟩
  · refine hc.kept hg ?_
    cases e : m.ownBlock with
    | none => exact .inl rfl
    | some x => exact .inr fun e2 => h.apart x e e2.symm
  · rw [List.replicate_succ', Fld.byteCells_append]; exact hown
  · intro x hx ho
    simp only [Value.ownBlock, Option.some.injEq] at ho
    subst ho
    rcases hat with h1 | h1
    · exact h.apart _ hx h1
    · have := (h.mix.lt _ hx).2
      omega

theorem conv_own {w : World} {v : Value} {b0 : Nat} {l : List UInt8} {k : Nat} (hk : l.length = k) (h : w.ownsRow b0 5 1 v k (Fld.byteCells l)) : (convert 45 9 v).run Try.prog w = .ok (.string ⟨l.toArray⟩) w := by
  subst hk
  rcases h.2 with ⟨rfl, hn⟩ | ⟨g, cap, cur, rfl, hb, hg, _, _, _, htk⟩
  · have : l = [] := List.eq_nil_of_length_eq_zero hn
    subst this
    rw [run_convert_bytes_string w 45 9 5 none 0 0 Fld.und45 Try.underlying5 Try.underlying9]
    simp [Conv.bytesToString]
    rfl
  · refine run_convert_bytes_back (P := Try.prog) w 45 9 5 ⟨g, 0, none⟩ cap l Fld.und45 Try.underlying5 Try.underlying9 ?_
    intro j hj
    have hadd : (⟨g, 0, none⟩ : Addr).add j = ⟨g, j, none⟩ := by unfold Addr.add; split <;> simp_all
    rw [hadd, cell_of_row w g j cur 5 (0, 0) hg]
    have h1 : (cur.toList.take (l.length * 1))[j]? = (Fld.byteCells l)[j]? := by rw [htk]
    rw [Nat.mul_one, List.getElem?_take_of_lt hj] at h1
    rw [← Array.getElem?_toList, h1]
    simp [Fld.byteCells, hj]

theorem own_below {w w' : World} {v : Value} {b0 k : Nat} {xs : List Value} (h : w.ownsRow b0 5 1 v k xs) (hb : Below w.heap.size w w') : w'.ownsRow b0 5 1 v k xs := by
  refine ⟨h.1, ?_⟩
  rcases h.2 with hn | ⟨g, cap, cur, hv, hg, hgc, rest⟩
  · exact .inl hn
  · exact .inr ⟨g, cap, cur, hv, hg, (hb.block g (Array.getElem?_eq_some_iff.1 hgc).1).trans hgc, rest⟩

/-- Both rows, as texts, and what lies below. -/
structure Texts2 (w : World) (M Z : ByteArray) (k : Nat) (m o : Value) (W : World) : Prop where
  mix : W.ownsRow w.heap.size 5 1 m k (Fld.byteCells M.data.toList)
  oth : W.ownsRow w.heap.size 5 1 o k (Fld.byteCells Z.data.toList)
  below : Below w.heap.size w W

theorem Texts2.drew {w W : World} {M Z : ByteArray} {k : Nat} {m o : Value} (h : Texts2 w M Z k m o W) : Texts2 w M Z k m o W.drew := ⟨h.mix.drew, h.oth.drew, h.below.drew⟩
theorem Texts2.after {w W W' : World} {M Z : ByteArray} {k : Nat} {m o : Value} (hb : Below W.heap.size W W') (h : Texts2 w M Z k m o W) : Texts2 w M Z k m o W' := ⟨own_below h.mix hb, own_below h.oth hb, h.below.trans (hb.mono h.below.size)⟩
theorem Texts2.conv {w W : World} {M Z : ByteArray} {k : Nat} {m o : Value} (hM : M.data.toList.length = k) (hZ : Z.data.toList.length = k) (h : Texts2 w M Z k m o W) :
    (convert 45 9 m).run Try.prog W = .ok (.string M) W ∧ (convert 45 9 o).run Try.prog W = .ok (.string Z) W :=
  ⟨conv_own hM h.mix, conv_own hZ h.oth⟩

theorem xor_three (A B M Z : ByteArray) (N : Nat) (hA : N ≤ A.size) (hB : N ≤ B.size) (hM : M.data.toList = mixL (A.data.toList.take N) (B.data.toList.take N)) (hZ : Z.data.toList = List.replicate N 0) :
    bits .xor .u32 (bits .xor .u32 (ofB (A.extract 0 N)) (ofB (B.extract 0 N))) (ofB Z) = ofB M := by
  have ea : (A.extract 0 N).data.toList = A.data.toList.take N := by simp
  have eb : (B.extract 0 N).data.toList = B.data.toList.take N := by simp
  have hI : (4294967295 : Nat) < 2 ^ 32 := by decide
  have la := feed_lt 4294967295 (A.data.toList.take N) hI
  have lb := feed_lt 4294967295 (B.data.toList.take N) hI
  have lz := feed_lt 4294967295 Z.data.toList hI
  have h3 := feed_three 4294967295 (A.data.toList.take N) (B.data.toList.take N) Z.data.toList (by simp; omega) (by rw [hZ]; simp; omega)
  unfold ofB
  rw [ofI_xor, ofI_xor, ofI_xor, ofI_xor, ea, eb, bits_xor_u32 _ _ (Nat.xor_lt_two_pow hI la) (Nat.xor_lt_two_pow hI lb), bits_xor_u32 _ _ (Nat.xor_lt_two_pow (Nat.xor_lt_two_pow hI la) (Nat.xor_lt_two_pow hI lb)) (Nat.xor_lt_two_pow hI lz), hM, h3]
  congr 1
  generalize feedN 4294967295 (A.data.toList.take N) = a
  generalize feedN 4294967295 (B.data.toList.take N) = b
  generalize feedN 4294967295 Z.data.toList = c
  apply Nat.eq_of_testBit_eq
  intro i
  simp only [Nat.testBit_xor]
  cases a.testBit i <;> cases b.testBit i <;> cases c.testBit i <;> cases (4294967295 : Nat).testBit i <;> rfl

theorem conv_in (A : ByteArray) (w : World) : ∃ (c : Nat) (cs : Array Value) (W2 : World), (convert 9 45 (.string A)).run Try.prog w = .ok (.slice (some ⟨w.heap.size, 0, none⟩) A.size c) W2 ∧
    W2.heap[w.heap.size]? = some (.cells cs 5 (cs.size, cs.size + 1)) ∧ A.size ≤ cs.size ∧ (∀ j (h : j < A.size), cs[j]? = some (.int .u8 ((A[j]).toNat : Int))) ∧ Below w.heap.size w W2 := by
  refine ⟨_, bytesRow A (grownCap w A.size 0 5), _, run_bytes_of_string w 9 45 5 A Try.underlying9 Fld.und45 Try.underlying5, ?_, ?_, ?_, ?_⟩
  · simp [World.alloc, World.drew, -World.alloc_eq, -World.drew_eq]
  · simp [bytesRow]
  · intro j hj
    have hj2 : j < A.data.size := hj
    exact bytesRow_at A _ j hj2
  · exact (Below.refl _ _).drew.alloc (Nat.le_refl _) _

theorem byte_more (x : UInt8) : x + 1 ≠ x ∧ ((x + 1).toNat : Int) = ((x.toNat : Int) + 1) % 256 := by
  have hx := UInt8.toNat_lt x
  have e : (x + 1).toNat = (x.toNat + 1) % 256 := by rw [UInt8.toNat_add]; rfl
  refine ⟨fun h => ?_, by rw [e]; omega⟩
  have := congrArg UInt8.toNat h
  omega

theorem conv_out (A : ByteArray) (K b c : Nat) (cs : Array Value) (W2 : World) (hK : K < A.size) (hA : A.size ≤ 1000) (hg : W2.heap[b]? = some (.cells cs 5 (cs.size, cs.size + 1))) (hs : A.size ≤ cs.size) (hc : ∀ j (h : j < A.size), cs[j]? = some (.int .u8 ((A[j]).toNat : Int))) :
    ∃ X : ByteArray, X.size ≤ 1000 ∧ ofB X ≠ ofB A ∧ (convert 45 9 (.slice (some ⟨b, 0, none⟩) A.size c)).run Try.prog (W2.setCell ⟨b, K, none⟩ (.int .u8 (((A[K]).toNat + 1) % 256))) = .ok (.string X) (W2.setCell ⟨b, K, none⟩ (.int .u8 (((A[K]).toNat + 1) % 256))) := by
  obtain ⟨hn, hv⟩ := byte_more A[K]
  have hl : (A.data.toList.set K (A[K] + 1)).length = A.size := by simp
  have hKl : K < A.data.toList.length := by simpa using hK
  refine ⟨⟨(A.data.toList.set K (A[K] + 1)).toArray⟩, ?_, ?_, ?_⟩
  · show (A.data.toList.set K (A[K] + 1)).toArray.size ≤ 1000
    simp only [List.size_toArray, hl]
    exact hA
  · intro h
    have h1 := feed_other 4294967295 A.data.toList K (A[K] + 1) (by decide) hKl hn
    unfold ofB ofI feedI at h
    have e : (⟨(A.data.toList.set K (A[K] + 1)).toArray⟩ : ByteArray).data.toList = A.data.toList.set K (A[K] + 1) := by simp
    rw [e] at h
    apply h1
    have h2 : ((feedN (Int.toNat 4294967295) (A.data.toList.set K (A[K] + 1)) : Nat) : Int) = (feedN (Int.toNat 4294967295) A.data.toList : Nat) := by omega
    exact Int.ofNat_inj.1 h2
  · rw [← hv]
    have hrow : (W2.setCell ⟨b, K, none⟩ (.int .u8 ((A[K] + 1).toNat : Int))).heap[b]? = some (.cells (cs.setIfInBounds K (.int .u8 ((A[K] + 1).toNat : Int))) 5 (cs.size, cs.size + 1)) := by
      rw [setCell_eq_setRow W2 b K cs 5 _ _ hg]
      exact setRow_heap W2 b cs _ 5 _ hg
    have h := run_convert_bytes_back (P := Try.prog) (W2.setCell ⟨b, K, none⟩ (.int .u8 ((A[K] + 1).toNat : Int))) 45 9 5 ⟨b, 0, none⟩ c (A.data.toList.set K (A[K] + 1)) Fld.und45 Try.underlying5 Try.underlying9 (by
      intro j hj
      have hj2 : j < A.size := by omega
      have hadd : (⟨b, 0, none⟩ : Addr).add j = ⟨b, j, none⟩ := by unfold Addr.add; split <;> simp_all
      rw [hadd, cell_of_row _ _ _ _ _ _ hrow, Array.getElem?_setIfInBounds]
      by_cases e : K = j
      · subst e
        have : K < cs.size := by omega
        simp [this]
      · rw [if_neg e, hc j hj2]
        simp [List.getElem_set, e]
        rfl)
    rw [hl] at h
    exact h

theorem below_grown {B n : Nat} {v : Value} {xs : List Value} {a w c w' : World} (hb : Below B a c) (ho : w.ownsRow B 5 1 v n xs) (hg : c.grownBy w' v.ownBlock) (hB : B ≤ c.heap.size) : Below B a w' :=
  hb.grown hg hB (fun k hk => (ho.lt k hk).1)

theorem wrap_cut (cut : Int) (n : Nat) (h0 : 0 ≤ cut) (hn : n ≤ 1000) : ∃ K : Nat, wrap64 (cut % ((n : Int) + 1)) = (K : Int) ∧ K ≤ n := by
  have a : 0 ≤ cut % ((n : Int) + 1) := Int.emod_nonneg _ (by omega)
  have b : cut % ((n : Int) + 1) < (n : Int) + 1 := Int.emod_lt_of_pos _ (by omega)
  refine ⟨(cut % ((n : Int) + 1)).toNat, ?_, by omega⟩
  unfold wrap64
  rw [Int.toNat_of_nonneg a]
  generalize cut % ((n : Int) + 1) = x at a b
  omega

set_option maxRecDepth 100000 in
set_option maxHeartbeats 4000000 in
theorem sumParts (s u : ByteArray) (cut : Int) (w : World) (c0 : 0 ≤ cut) (c1 : cut < 18446744073709551616) (hs : s.size ≤ maxLen) (hu : u.size ≤ maxLen) :
    Calls Try.prog 8 #[.string s, .string u, .int .u64 cut] w fun e w' => e = .returned (.bool true) ∧ Below w.heap.size w w' := by
  have hz := hid zero56_size
  unfold maxLen at hs hu
  go_enter Try.func8, Try.ntmps8
  go_upto_region 1 with fail
  go_cut [0, 1] (fun s7 s8 wx => ∃ A B : ByteArray, s7 = .string A ∧ s8 = .string B ∧ A.size ≤ 1000 ∧ B.size ≤ 1000 ∧ Below w.heap.size w wx)
  case first =>
    go_quiet (fail)
    go_wp2_with fail
    all_goals go_meet
    all_goals exact ⟨_, _, rfl, rfl, by first | (rw [ByteArray.size_extract]; omega) | omega, by first | (rw [ByteArray.size_extract]; omega) | omega, by first | exact Below.refl _ _ | (apply below_drewN; exact Below.refl _ _)⟩
  case rest =>
    obtain ⟨A, B, rfl, rfl, hA2, hB2, hbel⟩ := hcut
    have HL := hid hbel; clear hbel
    have HA : Hid (A.size ≤ maxLen) := by unfold Hid maxLen; omega
    have HB : Hid (B.size ≤ maxLen) := by unfold Hid maxLen; omega
    clear hs hu
    go_wp2_with fail
    refine (made _).mono ?_
    rintro e w1 ⟨rfl, hB1⟩
    have HT := hid (tabled w w1 (HL.out.trans (hB1.mono HL.out.size))); clear hB1
    go_wp2_with (refine wpList_store_row rfl 56 _ _ rfl w1.heap.size tabV rfl rfl 56 Try.zeroCells56 (heap_alloc_new _ _) (by rw [tabV_size]; exact size56) (by rw [tabV_size]; exact hz.out) tabV_one ?_)
    generalize (w1.alloc (.cells Try.zeroCells56 56)).setRow w1.heap.size tabV = W at HT ⊢
    generalize w1.heap.size = g at HT ⊢
    have HK := hid (Known.mk HT.out.tab HT.out.below)
    clear HT
    obtain ⟨K, hK, hKle⟩ := wrap_cut cut A.size c0 hA2
    rw [hK]
    clear hK
    have hk0 : (0 : Int) ≤ (K : Int) := by omega
    have hk1 : (K : Int) ≤ (A.size : Int) := by omega
    have HP : Hid ((A.extract 0 K).size ≤ maxLen) := by unfold Hid maxLen; rw [ByteArray.size_extract]; omega
    have HQ : Hid ((A.extract K A.size).size ≤ maxLen) := by unfold Hid maxLen; rw [ByteArray.size_extract]; omega
    go_cut [64] (fun s64 wx => s64 = .bool false ∧ Below w.heap.size w wx)
    case first =>
      have HF := hid (fdB_bd 4294967295 (A.extract 0 K) (by omega) (by omega))
      have HG := hid (fdB_bd (fdB 4294967295 (A.extract 0 K)) (A.extract K A.size) HF.out.1 HF.out.2)
      have HE := hid (end_fd _ _ _ (cut_at A K hKle))
      go_region_held3 (fun w' => True) (trivial)
        (first
          | (go_at_call 37; refine (begin_ _).mono ?_; rintro e w' ⟨rfl, rfl⟩)
          | (have tok := T1.out; clear tok; go_at_call 33; refine (feed_tab1 g _ _ (fdB 4294967295 (A.extract 0 K)) (A.extract K A.size) _ HF.out.1 HF.out.2 (by (repeat (first | exact HK.out.tab | apply IsTab.alloc | apply IsTab.drew)); done) (by (repeat (first | exact texts_one' _ _ _ (by (simp; done)) HQ.out | refine TextsAt.alloc ?_ (by (simp; done)) _ | apply TextsAt.drew)); done)).mono ?_; rintro e w' ⟨rfl, rfl⟩)
          | (go_at_call 33; refine (feed_tab1 g _ _ 4294967295 (A.extract 0 K) _ (by omega) (by omega) (by (repeat (first | exact HK.out.tab | apply IsTab.alloc | apply IsTab.drew)); done) (by (repeat (first | exact texts_one' _ _ _ (by (simp; done)) HP.out | refine TextsAt.alloc ?_ (by (simp; done)) _ | apply TextsAt.drew)); done)).mono ?_; rintro e w' ⟨rfl, rfl⟩; have T1 := hid True.intro)
          | (go_at_call 38; refine (end_to _ _ _ HG.out.1 HG.out.2 HE.out).mono ?_; rintro e w' ⟨rfl, rfl⟩)
          | (have tok := K3.out; clear tok; go_at_call 35; refine (ofB_is A _ HA.out).mono ?_; rintro e w9 ⟨rfl, hB9⟩; have K4 := hid (Known.behind (w := w) (g := g) hB9 (by (repeat (first | exact K3.out | apply Known.alloc | apply Known.drew)); done)); clear hB9)
          | (have tok := K1.out; clear tok; go_at_call 35; refine (ofB_is _ _ HQ.out).mono ?_; rintro e w9 ⟨rfl, hB9⟩; have K2 := hid (Known.behind (w := w) (g := g) hB9 (by (repeat (first | exact K1.out | apply Known.alloc | apply Known.drew)); done)); clear hB9)
          | (have tok := K0.out; clear tok; go_at_call 35; refine (ofB_is _ _ HP.out).mono ?_; rintro e w9 ⟨rfl, hB9⟩; have K1 := hid (Known.behind (w := w) (g := g) hB9 (by (repeat (first | exact K0.out | apply Known.alloc | apply Known.drew)); done)); clear hB9)
          | (have tok := HK.out; clear tok; go_at_call 35; refine (ofB_is A _ HA.out).mono ?_; rintro e w9 ⟨rfl, hB9⟩; have K0 := hid (Known.behind (w := w) (g := g) hB9 (by (repeat (first | exact HK.out | apply Known.alloc | apply Known.drew)); done)); clear hB9)
          | (go_at_call 41; refine (join_cut A K _ hKle hA2).mono ?_; rintro e w9 ⟨rfl, hB9⟩; have K3 := hid (Known.behind (w := w) (g := g) hB9 (by (repeat (first | exact K2.out | apply Known.alloc | apply Known.drew)); done)); clear hB9))
      all_goals go_wp2_with fail
      all_goals go_meet
      all_goals exact ⟨rfl, K4.out.below⟩
    case rest =>
      obtain ⟨rfl, hbel⟩ := hcut
      have HM := hid hbel; clear hbel
      go_upto_region 6 with fail
      go_cut [9] (fun s9 wx => s9 = .int .i64 ((min A.size B.size : Nat) : Int) ∧ Below w.heap.size w wx)
      case first =>
        go_wp2_with fail
        all_goals go_meet
        all_goals exact ⟨by first | (rw [Nat.min_eq_left (by omega)]; done) | (rw [Nat.min_eq_right (by omega)]; done), HM.out⟩
      case rest =>
        obtain ⟨rfl, hbel⟩ := hcut
        have HM2 := hid hbel; clear hbel
        obtain ⟨N, hN, hNA, hNB, hN3⟩ : ∃ N : Nat, N = min A.size B.size ∧ (N : Int) ≤ (A.size : Int) ∧ (N : Int) ≤ (B.size : Int) ∧ N ≤ 1000 := ⟨_, rfl, by omega, by omega, by omega⟩
        rw [← hN]
        clear hN
        obtain ⟨i0, hi, hz0, hz1, hz2⟩ := info_parts Fld.info5
        have HI := hid hi
        clear hi
        have HA3 := hid hA2
        clear hA2 hB2
        go_wp2_with fail
        go_loopw [10, 11, 12, 71] (fun m o _ i wr => ∃ k : Nat, k ≤ N ∧ i = .int .i64 k ∧ Pair w.heap.size A B k m o wr ∧ Below w.heap.size w wr) (fun _ _ _ i _ => N - (intOf i).toNat)
        case atStart => exact ⟨0, by omega, rfl, pair_start _ _ _ _, HM2.out⟩
        case round =>
          obtain ⟨k, hk, rfl, hp, hb⟩ := hrel
          have HP := hid hp
          have HB0 := hid hb
          clear hp hb
          by_cases hlt : k < N
          · have ha0 : (k : Int) < (A.size : Int) := by omega
            have hb0 : (k : Int) < (B.size : Int) := by omega
            have hk0 : (0 : Int) ≤ (k : Int) := by omega
            go_upto_region 11 with fail
            have hx := mix_cell A B k (by omega) (by omega)
            have hL1 : k + 1 ≤ maxLen := by unfold maxLen; omega
            have HL1 := hid hL1
            have HL2 := hid (show (k + 1) * 1 ≤ 140737488355328 by omega)
            clear hL1
            obtain ⟨MA, mc, rfl⟩ := Fld.own_form HP.out.mix
            obtain ⟨OA, oc, rfl⟩ := Fld.own_form HP.out.oth
            go_cut [10] (fun m' wx => (∃ g1 cap1, m' = .slice (some ⟨g1, 0, none⟩) (k + 1) cap1) ∧ Mid w.heap.size A B k m' (.slice OA k oc) wx ∧ Below w.heap.size w wx)
            case first =>
              go_region_held3 (fun w' => True) (trivial) ((refine step_append_lies _ (by rfl) _ _ _ (by rfl) w.heap.size 5 i0 (.int .u8 0) 1 1 Fld.und45 HI.out hz0 hz1 hz2 (by rfl) (by decide) (.slice MA k mc) k _ (by rfl) (by first | exact HP.out.mix.alloc _ | exact (HP.out.mix.alloc _).drew) ⟨wr.heap.size, 0, none⟩ 1 1 [.int .u8 ((A[k] ^^^ B[k]).toNat : Int)] (by rfl) (by rfl) (World.news_of_block (heap_alloc_new _ _)) (by simp [Value.oneCell']) (by decide) HL1.out HL2.out (by have := HB0.out.size; simp; omega) (wr.heap.size + 1) (by simp) ?_; intro g1 cap1 w1 hown1 hgrow1 hat1 hlt1; have HO1 := hid hown1; have HG1 := hid hgrow1; have HT1 := hid hat1; clear hown1 hgrow1 hat1 hlt1))
              all_goals go_wp2_with fail
              all_goals go_meet
              all_goals exact ⟨⟨_, _, rfl⟩, HP.out.mid (by omega) (by omega) (by first | exact HP.out.oth.alloc _ | exact (HP.out.oth.alloc _).drew) HO1.out HG1.out HT1.out, below_grown (by first | exact HB0.out.alloc HB0.out.size _ | exact (HB0.out.alloc HB0.out.size _).drew) HP.out.mix HG1.out (by have := HB0.out.size; simp; omega)⟩
            case rest =>
              obtain ⟨⟨g1, cap1, rfl⟩, hmid, hbl⟩ := hcut
              have HMid := hid hmid
              have HBl := hid hbl
              clear hmid hbl
              go_wp2_with (at_builtin; (refine wpList_append_lies _ (by rfl) _ _ _ (by rfl) w.heap.size 5 i0 (.int .u8 0) 1 1 Fld.und45 HI.out hz0 hz1 hz2 (by rfl) (by decide) (.slice OA k oc) k _ (by rfl) (HMid.out.oth.alloc _) ⟨wc.heap.size, 0, none⟩ 1 1 [.int .u8 0] (by rfl) (by rfl) (World.news_of_block (heap_alloc_new _ _)) (by simp [Value.oneCell']) (by decide) HL1.out HL2.out (by have := HBl.out.size; simp; omega) (wc.heap.size + 1) (by simp) ?_); intro g2 cap2 w2 hown2 hgrow2 hat2 hlt2; have HO2 := hid hown2; have HG2 := hid hgrow2; have HT2 := hid hat2; clear hown2 hgrow2 hat2 hlt2)
              go_roundw
              case rel => exact ⟨k + 1, by omega, by go_num, HMid.out.next (HMid.out.mix.alloc _) HO2.out HG2.out HT2.out, below_grown (HBl.out.alloc HBl.out.size _) HMid.out.oth HG2.out (by have := HBl.out.size; simp; omega)⟩
              case measure => simp [intOf]; omega
          · obtain rfl : k = N := by omega
            go_upto_region 14 with fail
            obtain ⟨M, hM⟩ : ∃ M : ByteArray, M.data.toList = mixL (A.data.toList.take k) (B.data.toList.take k) := ⟨⟨(mixL (A.data.toList.take k) (B.data.toList.take k)).toArray⟩, by simp⟩
            obtain ⟨Z, hZ⟩ : ∃ Z : ByteArray, Z.data.toList = List.replicate k 0 := ⟨⟨(List.replicate k 0).toArray⟩, by simp⟩
            have hka : k ≤ A.size := by omega
            have hkb : k ≤ B.size := by omega
            have HX := hid (xor_three A B M Z k hka hkb hM hZ)
            have HML := hid (show M.data.toList.length = k by rw [hM]; simp [mixL]; omega)
            have HZL := hid (show Z.data.toList.length = k by rw [hZ]; simp)
            have HT0 := hid (show Texts2 w M Z k u10 u11 wr from ⟨by rw [hM]; exact HP.out.mix, by rw [hZ]; exact HP.out.oth, HB0.out⟩)
            have HMs : Hid (M.size ≤ maxLen) := by have h1 := HML.out; have h2 : M.size = M.data.toList.length := (by simp); unfold Hid maxLen; omega
            have HZs : Hid (Z.size ≤ maxLen) := by have h1 := HZL.out; have h2 : Z.size = Z.data.toList.length := (by simp); unfold Hid maxLen; omega
            have HAs : Hid ((A.extract 0 k).size ≤ maxLen) := by unfold Hid maxLen; rw [ByteArray.size_extract]; omega
            have HBs : Hid ((B.extract 0 k).size ≤ maxLen) := by unfold Hid maxLen; rw [ByteArray.size_extract]; omega
            clear hM hZ hka hkb
            obtain ⟨MA, mc, rfl⟩ := Fld.own_form HT0.out.mix
            obtain ⟨OA, oc, rfl⟩ := Fld.own_form HT0.out.oth
            have hkz : (0 : Int) ≤ (k : Int) := by omega
            go_cut [104] (fun s104 wx => s104 = .bool false ∧ Below w.heap.size w wx)
            case first =>
              have hcs := HT0.out.conv HML.out HZL.out
              obtain ⟨hc1, hc2⟩ := hcs
              have hx := HX.out
              go_region_held3 (fun w' => (convert 45 9 (.slice MA k mc)).run Try.prog w' = .ok (.string M) w' ∧ (convert 45 9 (.slice OA k oc)).run Try.prog w' = .ok (.string Z) w')
                (first | exact ⟨hc1, hc2⟩ | exact HT0.out.drew.conv HML.out HZL.out | exact Q1.out.conv HML.out HZL.out | exact Q2.out.conv HML.out HZL.out | exact Q3.out.conv HML.out HZL.out | exact Q4.out.conv HML.out HZL.out | exact Q1.out.drew.conv HML.out HZL.out | exact Q2.out.drew.conv HML.out HZL.out | exact Q3.out.drew.conv HML.out HZL.out)
                (first
                  |(have tok := Q3.out; clear tok; go_at_call 35; refine (ofB_is Z _ HZs.out).mono ?_; rintro e w9 ⟨rfl, hB9⟩; have Q4 := hid (Texts2.after (w := w) (M := M) (Z := Z) (k := k) hB9 (by first | exact Q3.out | exact Q3.out.drew)); clear hB9)
                  | (have tok := Q2.out; clear tok; go_at_call 35; refine (ofB_is (B.extract 0 k) _ HBs.out).mono ?_; rintro e w9 ⟨rfl, hB9⟩; have Q3 := hid (Texts2.after (w := w) (M := M) (Z := Z) (k := k) hB9 (by first | exact Q2.out | exact Q2.out.drew)); clear hB9)
                  | (have tok := Q1.out; clear tok; go_at_call 35; refine (ofB_is (A.extract 0 k) _ HAs.out).mono ?_; rintro e w9 ⟨rfl, hB9⟩; have Q2 := hid (Texts2.after (w := w) (M := M) (Z := Z) (k := k) hB9 (by first | exact Q1.out | exact Q1.out.drew)); clear hB9)
                  | (have tok := HT0.out; clear tok; go_at_call 35; refine (ofB_is M _ HMs.out).mono ?_; rintro e w9 ⟨rfl, hB9⟩; have Q1 := hid (Texts2.after (w := w) (M := M) (Z := Z) (k := k) hB9 (by first | exact HT0.out | exact HT0.out.drew)); clear hB9))
              all_goals go_wp2_with fail
              all_goals go_meet
              all_goals exact ⟨rfl, Q4.out.below⟩
            case rest =>
              obtain ⟨rfl, hbel⟩ := hcut
              have HM3 := hid hbel; clear hbel
              have HA4 := hid (show A.size ≤ 1000 from HA3.out)
              by_cases hcut2 : K < A.size
              · have hc0 : (K : Int) < (A.size : Int) := by omega
                obtain ⟨c, cs, W2, hcv, hg2, hsz2, hcs2, hbl2⟩ := conv_in A wc
                have HG2 := hid hg2
                have HBL2 := hid (HM3.out.trans (hbl2.mono HM3.out.size))
                have hBs := HM3.out.size
                have hcell : W2.cell? ⟨wc.heap.size, K, none⟩ = some (.int .u8 ((A[K]).toNat : Int)) := by rw [cell_of_row _ _ _ _ _ _ hg2]; exact hcs2 K hcut2
                have hfz : W2.frozen? ⟨wc.heap.size, K, none⟩ = false := by
                  simp [World.frozen?, hg2]; omega
                have HS2 := hid hsz2
                have HC2 := hid hcs2
                clear hg2 hsz2 hcs2 hbl2 hBs
                obtain ⟨X, hX, hne, hcv3⟩ := conv_out A K wc.heap.size c cs W2 hcut2 HA4.out HG2.out HS2.out HC2.out
                have HXs : Hid (X.size ≤ maxLen) := by unfold Hid maxLen; omega
                have hne2 : (ofB X == ofB A) = false := by simpa using hne
                have HB3 := hid (show Below w.heap.size w (W2.setCell ⟨wc.heap.size, K, none⟩ (.int .u8 (((A[K]).toNat + 1) % 256))) from HBL2.out.setCell HM3.out.size _)
                go_upto_region 19 with fail
                generalize W2.setCell ⟨wc.heap.size, K, none⟩ (.int .u8 (((A[K]).toNat + 1) % 256)) = W3 at HB3 hcv3 ⊢
                clear hcv hcell hfz
                go_wp2_with fail
                refine (ofB_is X _ HXs.out).mono ?_
                rintro e w6 ⟨rfl, hB6⟩
                have HB6 := hid hB6; clear hB6
                go_wp2_with fail
                refine (ofB_is A _ HA.out).mono ?_
                rintro e w7 ⟨rfl, hB7⟩
                have HB7 := hid hB7; clear hB7
                go_wp2_with fail
                refine (lives _).mono ?_
                rintro e w4 ⟨rfl, hB5⟩
                have HB5 := hid hB5; clear hB5
                go_wp2_with fail
                go_ret
                have a := HB3.out
                have b := a.trans (HB6.out.mono a.size)
                have c := b.trans (HB7.out.mono b.size)
                exact ⟨rfl, c.trans (HB5.out.mono c.size)⟩
              · go_wp2_with fail
                refine (lives _).mono ?_
                rintro e w4 ⟨rfl, hB5⟩
                have HB5 := hid hB5; clear hB5
                go_wp2_with fail
                go_ret
                exact ⟨rfl, HM3.out.trans (HB5.out.mono HM3.out.size)⟩
