/- BitioBack: the iterator over a text's bits. -/
import Derived.Test.YtlgnapapofgdfaaBitH
import Derived.Test.YtlgnapapofgdfaaBitN
import Derived.RangeFuncFrom
import Derived.WalkKit
namespace Go.Proofs.Ytlgnapapofgdfaa
set_option linter.unusedVariables false
open Go.RowKit Go.Shelf
open Go.Proofs.Bit
attribute [local go_sem] Oper.semAt_some

theorem row_kept {W W' : World} {row : Option Nat} {k : Nat} {cs : Array Value} {T : TypeId} (h : W.heap[k]? = some (.cells cs T (0, 0))) (hg : W.grownBy W' row) (hr : ∀ r, row = some r → ∃ o : Obj, W.heap[r]? = some o ∧ o.isCells = false) : W'.heap[k]? = some (.cells cs T (0, 0)) := by
  rw [hg.block k (Array.getElem?_eq_some_iff.1 h).1 ?_]
  · exact h
  · intro e
    obtain ⟨o, h1, h2⟩ := hr k e.symm
    rw [h] at h1
    cases h1
    cases h2

/-- A text's box stays. -/
def Stays (B : Nat) (W W' : World) : Prop := ∀ s : ByteArray, W.heap[B]? = some (.cells #[.string s] 9 (0, 0)) → W'.heap[B]? = some (.cells #[.string s] 9 (0, 0))
theorem stays_t {B : Nat} {X Y Z : World} (h : Stays B X Y) (k : Stays B Y Z) : Stays B X Z := fun s e => k s (h s e)
theorem stays_b {B : Nat} {w : World} (W : World) (l : Nat) (o o' : Obj) (hl : w.heap.size ≤ l) (h : W.heap[l]? = some o) (hc : o.isCells = false) (_ : o.isWalk = false) : Stays B W (W.putObj l o') :=
  fun s e => row_kept e (grownBy_putObj' W l o') (fun r er => by cases er; exact ⟨o, h, hc⟩)

theorem and_one (a : Nat) (ha : a < 4294967296) : bits .and .u32 (a : Int) 1 = ((a % 2 : Nat) : Int) := by
  have h1 : (BitVec.ofInt 32 (a : Int)).toNat = a := by
    rw [BitVec.ofInt_natCast, BitVec.toNat_ofNat]; exact Nat.mod_eq_of_lt (by omega)
  have h2 : (BitVec.ofInt 32 (1 : Int)).toNat = 1 := by decide
  show IntKind.u32.wrap ((BitVec.ofInt 32 (a : Int) &&& BitVec.ofInt 32 (1 : Int)).toNat : Int) = _
  rw [BitVec.toNat_and, h1, h2, Nat.and_one_is_mod, IntKind.wrap_u32]
  omega
theorem bit_form (c r : Nat) (hc : c < 256) : bits .and .u32 ((c : Int) / 2 ^ r % 4294967296) 1 = ((c / 2 ^ r % 2 : Nat) : Int) := by
  have h1 : c / 2 ^ r ≤ c := Nat.div_le_self _ _
  have e2 : ((c : Int) / 2 ^ r) = ((c / 2 ^ r : Nat) : Int) := by simp
  rw [e2]
  generalize c / 2 ^ r = q at h1 ⊢
  have e : ((q : Int) % 4294967296) = (q : Int) := by omega
  rw [e, and_one _ (by omega)]

set_option maxRecDepth 100000 in
set_option maxHeartbeats 2000000 in
theorem bits1 (F : Fence) (n : Nat) (h22 : F.fn 22) (hro : F.round = none) (hn : 1 ≤ n) (l Bn : Nat) (s : ByteArray) (hs : s.size ≤ 200) (J Jx : List Bool → World → Prop)
    (hY : ∀ (pre : List Bool) (x : Bool) (W : World), J pre W → pre.length < 8 * s.size → YieldAt F (n - 1) Try.prog l #[.int .u32 ((x.toNat : Nat) : Int)] W fun e W' =>
      (e = .returned (.bool true) ∧ J (pre ++ [x]) W' ∧ Stays Bn W W') ∨ (e = .returned (.bool false) ∧ Jx (pre ++ [x]) W'))
    (W : World) (hBn : W.heap[Bn]? = some (.cells #[.string s] 9 (0, 0))) (h0 : J [] W) :
    CallsIn F n Try.prog 22 #[.func (.yield l) #[] #[], .pointer (some ⟨Bn, 0, none⟩)] W fun e W' => (∃ v, e = .returned v) ∧
      ((∃ ys, ys = tbits s (8 * s.size) ∧ J ys W') ∨ (∃ pre, pre <+: tbits s (8 * s.size) ∧ Jx pre W')) := by
  have HB := hid hBn
  have hcb : W.cell? ⟨Bn, 0, none⟩ = some (.string s) := by rw [cell_of_row _ _ _ _ _ _ hBn]; rfl
  clear hBn
  refine callsIn_of_wp Try.func22 rfl h22 ?_ hro
  simp only [Try.ntmps22, List.size_toArray, List.length_cons, List.length_nil, Nat.reduceAdd, Nat.reduceSub, Array.replicate_succ, Array.replicate_zero, List.push_toArray, List.append_toArray, List.nil_append, List.cons_append]
  gi_wp2
  gi_loopw [7] (fun i wr => ∃ k : Nat, i = .int .i64 (k : Int) ∧ k ≤ s.size ∧ wr.heap[Bn]? = some (.cells #[.string s] 9 (0, 0)) ∧ J (tbits s (8 * k)) wr) (fun i _ => s.size - (intOf i).toNat)
  case atStart => exact ⟨0, rfl, by omega, HB.out, h0⟩
  case round =>
    obtain ⟨k, rfl, hk, hb, hJ⟩ := hrel
    have HBk := hid hb
    clear hb HB hcb
    by_cases hlt : k < s.size
    · gi_upto_region 3 with fail
      gi_wp2
      gi_loopw [10] (fun i wr => ∃ r : Nat, i = .int .i64 (r : Int) ∧ r ≤ 8 ∧ wr.heap[Bn]? = some (.cells #[.string s] 9 (0, 0)) ∧ J (tbits s (8 * k + r)) wr) (fun i _ => 8 - (intOf i).toNat)
      case atStart => exact ⟨0, rfl, by omega, HBk.out, hJ⟩
      case round =>
        obtain ⟨r, rfl, hr, hb2, hJ2⟩ := hrel
        have HB2 := hid hb2
        have hc2 : wr.cell? ⟨Bn, 0, none⟩ = some (.string s) := by rw [cell_of_row _ _ _ _ _ _ hb2]; rfl
        clear hb2 HBk hJ
        by_cases hr8 : r < 8
        · obtain ⟨fn, tmps, assign, body, hy, hR⟩ := hY (tbits s (8 * k + r)) (tbit s (8 * k + r)) wr hJ2 (by rw [tbits_length]; omega)
          have hbit : bits .and .u32 ((s[k].toNat : Int) / 2 ^ r % 4294967296) 1 = ((tbit s (8 * k + r)).toNat : Int) := by
            rw [bit_form _ _ (UInt8.toNat_lt _), tbit_byte s k r hlt hr8]
          have HT := hid (tbits_succ s (8 * k + r))
          generalize tbit s (8 * k + r) = x at hbit hy hR HT
          gi_wp2
          refine hR.mono ?_
          rintro e W3 (⟨rfl, hJ3, hk3⟩ | ⟨rfl, hJx3⟩)
          · gi_wp2
            go_roundw
            case rel => exact ⟨r + 1, by go_num, by omega, hk3 s HB2.out, by show J (tbits s (8 * k + r + 1)) W3; rw [HT.out]; exact hJ3⟩
            case measure => simp [intOf]; omega
          · gi_wp2
            refine bodyPost_ret (results_none rfl _ _ _) rfl ?_
            exact ⟨⟨_, rfl⟩, .inr ⟨tbits s (8 * k + r) ++ [x], by rw [← HT.out]; exact tbits_pre s _ _ (by omega), hJx3⟩⟩
        · obtain rfl : r = 8 := by omega
          gi_wp2
          go_roundw
          case rel => exact ⟨k + 1, by go_num, by omega, HB2.out, hJ2⟩
          case measure => simp [intOf]; omega
    · obtain rfl : k = s.size := by omega
      gi_wp2
      go_end0
      exact ⟨⟨_, rfl⟩, .inl ⟨_, rfl, hJ⟩⟩

theorem bits_stops (F : Fence) (n : Nat) (h22 : F.fn 22) (hro : F.round = none) (hn : 1 ≤ n) (Bn : Nat) (s : ByteArray) (hs : s.size ≤ 200) (w : World) (hc : w.heap[Bn]? = some (.cells #[.string s] 9 (0, 0))) :
    SeqStopsK F n Try.prog 22 #[.pointer (some ⟨Bn, 0, none⟩)] (fun x : Bool => #[Value.int .u32 ((x.toNat : Nat) : Int)]) (Stays Bn) (fun ys => ys = tbits s (8 * s.size)) (fun pre => pre <+: tbits s (8 * s.size)) (8 * s.size) w := fun l J Jx W hW _ _ hY h0 =>
  bits1 F n h22 hro hn l Bn s hs J Jx hY W ((hW.block _ (Array.getElem?_eq_some_iff.1 hc).1).trans hc) h0

theorem all (s : ByteArray) (w : World) : Calls Try.prog 18 #[.string s] w fun e w' => e = .returned (.func (.func 22) #[] #[.pointer (some ⟨w.heap.size, 0, none⟩)]) ∧ w' = w.alloc (.cells #[.string s] 9) := by
  go_enter Try.func18, Try.ntmps18
  go_wp2
  go_ret
  exact ⟨rfl, rfl⟩
end Go.Proofs.Ytlgnapapofgdfaa
