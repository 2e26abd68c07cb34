/- WALKS over the program's writer of bits. -/
import Derived.Test.YtlgnapapofgdfaaProg
import Derived.Test.YtlgnapapofgdfaaBitM
import Derived.WalkKit
import Derived.WalkSpells
import Derived.WalkLawsBesides
import Derived.Laws.Rows
import Derived.Laws.IdiomStrings
import Derived.Laws.Bits64b
import Derived.Laws.BitsAllLaws
import Derived.Deep.DeepCutAuto
import Derived.Deep.DrawnRows
import Derived.Deep.QuietTactic
import Derived.Deep.RegionHeld3
import Derived.Deep.AppendLies
import Derived.Lib.AppendStr
import Derived.OwnWalk
import Derived.Handy
import Derived.RangeFuncCalls
namespace Go.Proofs.Ytlgnapapofgdfaa
set_option linter.unusedVariables false
open Go.RowKit
open Go.Proofs.Bit
attribute [local go_sem ↓] Go.wp_at_zero Go.wp_at_succ

theorem hid {p : Prop} (h : p) : Hid p := h
theorem val_int {k : IntKind} {a b : Int} (h : a = b) : Value.int k a = .int k b := by rw [h]
theorem ret_int {k : IntKind} {a b : Int} (h : a = b) : Ending.returned (.int k a) = .returned (.int k b) := by rw [h]
theorem ret_str {a b : ByteArray} (h : a = b) : Ending.returned (.string a) = .returned (.string b) := by rw [h]

def byteCells (l : List UInt8) : List Value := l.map fun b => Value.int .u8 (b.toNat : Int)
theorem byteCells_length (l : List UInt8) : (byteCells l).length = l.length := by unfold byteCells; simp
theorem byteCells_append (l m : List UInt8) : byteCells (l ++ m) = byteCells l ++ byteCells m := by unfold byteCells; simp

theorem und23 : Try.prog.underlying 23 = some (.slice 5) := by kernel_rfl
theorem info5 : (Try.prog.info? 5).map (fun i => (i.zero, i.size, i.bytes)) = some (some (.int .u8 0), 1, 1) := by kernel_rfl

/-- A writer that stands between other things: its block, and its row of full bytes. -/
structure Raw (w : World) (b0 G : Nat) (v : Value) (l : List UInt8) (rest many : Int) : Prop where
  low : G < b0
  blk : w.heap[G]? = some (.cells #[v, .int .u64 rest, .int .i64 many] 26 (0, 0))
  own : w.ownsRow b0 5 1 v l.length (byteCells l)
theorem Raw.lt {w : World} {b0 G : Nat} {v : Value} {l : List UInt8} {rest many : Int} (h : Raw w b0 G v l rest many) : G < w.heap.size := (Array.getElem?_eq_some_iff.1 h.blk).1
theorem Raw.c0 {w : World} {b0 G : Nat} {v : Value} {l : List UInt8} {rest many : Int} (h : Raw w b0 G v l rest many) : w.cell? ⟨G, 0, none⟩ = some v := by rw [cell_of_row _ _ _ _ _ _ h.blk]; rfl
theorem Raw.c1 {w : World} {b0 G : Nat} {v : Value} {l : List UInt8} {rest many : Int} (h : Raw w b0 G v l rest many) : w.cell? ⟨G, 1, none⟩ = some (.int .u64 rest) := by rw [cell_of_row _ _ _ _ _ _ h.blk]; rfl
theorem Raw.c2 {w : World} {b0 G : Nat} {v : Value} {l : List UInt8} {rest many : Int} (h : Raw w b0 G v l rest many) : w.cell? ⟨G, 2, none⟩ = some (.int .i64 many) := by rw [cell_of_row _ _ _ _ _ _ h.blk]; rfl
theorem Raw.fr {w : World} {b0 G : Nat} {v : Value} {l : List UInt8} {rest many : Int} (h : Raw w b0 G v l rest many) (k : Nat) : w.frozen? ⟨G, k, none⟩ = false := frozen_of_row _ _ _ _ _ h.blk
theorem Raw.drewN {w : World} {b0 G : Nat} {v : Value} {l : List UInt8} {rest many : Int} (h : Raw w b0 G v l rest many) (n : Nat) : Raw (w.drewN n) b0 G v l rest many := ⟨h.low, h.blk, h.own⟩
theorem Raw.drew {w : World} {b0 G : Nat} {v : Value} {l : List UInt8} {rest many : Int} (h : Raw w b0 G v l rest many) : Raw w.drew b0 G v l rest many := ⟨h.low, h.blk, h.own.drew⟩

theorem own_form {w : World} {base n : Nat} {v : Value} {xs : List Value} (h : w.ownsRow base 5 1 v n xs) : ∃ (A : Option Addr) (cap : Nat), v = .slice A n cap := by
  rcases h.2 with ⟨rfl, rfl⟩ | ⟨g, cap, _, rfl, _⟩
  · exact ⟨none, 0, rfl⟩
  · exact ⟨_, cap, rfl⟩

/-- What the writer's steps leave as it was: blocks of other kinds of things, the writer's own block aside. -/
structure Keep (G T : Nat) (w w' : World) : Prop where
  others : ∀ (j : Nat) (cs : Array Value) (t : TypeId) (r : Nat × Nat), w.heap[j]? = some (.cells cs t r) → t ≠ T → j ≠ G → w'.heap[j]? = some (.cells cs t r)
  below : Below G w w'
  kinds : KeepsOthers w w'
theorem Keep.refl (G T : Nat) (w : World) : Keep G T w w := ⟨fun _ _ _ _ h _ _ => h, Below.refl _ _, KeepsOthers.refl _⟩
theorem Keep.trans {G T : Nat} {a b c : World} (h : Keep G T a b) (k : Keep G T b c) : Keep G T a c := ⟨fun j cs t r h1 h2 h3 => k.others j cs t r (h.others j cs t r h1 h2 h3) h2 h3, h.below.trans k.below, h.kinds.trans k.kinds⟩
theorem Keep.drewN {G T : Nat} {a b : World} (h : Keep G T a b) (n : Nat) : Keep G T a (b.drewN n) := ⟨h.others, ⟨h.below.os, h.below.tape, h.below.output, h.below.size, h.below.block⟩, ⟨h.kinds.size, h.kinds.same⟩⟩
theorem Keep.setCell {G T : Nat} {a b : World} (h : Keep G T a b) (k : Nat) (v : Value) : Keep G T a (b.setCell ⟨G, k, none⟩ v) :=
  ⟨fun j cs t r h1 h2 h3 => (Below.heap_setCell b ⟨G, k, none⟩ v j h3).trans (h.others j cs t r h1 h2 h3), h.below.setCell (Nat.le_refl _) v, h.kinds.trans (KeepsOthers.setCell _ _ _)⟩

/-- So many bits at once. -/
def manyN (c : Int) : Nat := (min (max c 0) 32).toNat
theorem manyN_le (c : Int) : manyN c ≤ 32 := by unfold manyN; omega

/-- A writer of the bits N, n of them. -/
def Wt (w : World) (b0 G N n : Nat) : Prop := N < 2 ^ n ∧ ∃ v, Raw w b0 G v (putL N (n / 8)) ((N / 256 ^ (n / 8) : Nat) : Int) ((n % 8 : Nat) : Int)

theorem conv_own {w : World} {v : Value} {b0 : Nat} {l : List UInt8} {k : Nat} (hk : l.length = k) (h : w.ownsRow b0 5 1 v k (byteCells l)) : (convert 23 9 v).run Try.prog w = .ok (.string ⟨l.toArray⟩) w := by
  subst hk
  rcases h.2 with ⟨rfl, hn⟩ | ⟨g, cap, cur, rfl, hb, hg, _, _, _, htk⟩
  · have : l = [] := List.eq_nil_of_length_eq_zero hn
    subst this
    rw [run_convert_bytes_string w 23 9 5 none 0 0 und23 Try.underlying5 Try.underlying9]
    simp [Conv.bytesToString]
    rfl
  · refine run_convert_bytes_back (P := Try.prog) w 23 9 5 ⟨g, 0, none⟩ cap l und23 Try.underlying5 Try.underlying9 ?_
    intro j hj
    have hadd : (⟨g, 0, none⟩ : Addr).add j = ⟨g, j, none⟩ := by unfold Addr.add; split <;> simp_all
    rw [hadd, cell_of_row w g j cur 5 (0, 0) hg]
    have h1 : (cur.toList.take (l.length * 1))[j]? = (byteCells l)[j]? := by rw [htk]
    rw [Nat.mul_one, List.getElem?_take_of_lt hj] at h1
    rw [← Array.getElem?_toList, h1]
    simp [byteCells, hj]

set_option maxRecDepth 100000 in
theorem wlen_nil (w : World) : Calls Try.prog 11 #[.pointer none] w fun e w' => e = .returned (.int .i64 0) ∧ w = w' := by
  go_enter Try.func11, Try.ntmps11
  go_wp2_with fail
  go_ret
  exact ⟨rfl, rfl⟩
theorem wbytes_nil (w : World) : Calls Try.prog 12 #[.pointer none] w fun e w' => e = .returned (.string ⟨#[]⟩) ∧ w = w' := by
  go_enter Try.func12, Try.ntmps12
  go_wp2_with fail
  go_ret
  exact ⟨rfl, rfl⟩
theorem wbits_nil (v c : Value) (w : World) : Calls Try.prog 5 #[.pointer none, v, c] w fun e w' => e = .returned (.tuple #[]) ∧ w = w' := by
  go_enter Try.func5, Try.ntmps5
  go_wp2_with fail
  go_returns
  exact ⟨rfl, rfl⟩
theorem walign_nil (w : World) : Calls Try.prog 7 #[.pointer none] w fun e w' => e = .returned (.tuple #[]) ∧ w = w' := by
  go_enter Try.func7, Try.ntmps7
  go_wp2_with fail
  go_returns
  exact ⟨rfl, rfl⟩
theorem wtext_nil (v : Value) (w : World) : Calls Try.prog 9 #[.pointer none, v] w fun e w' => e = .returned (.tuple #[]) ∧ w = w' := by
  go_enter Try.func9, Try.ntmps9
  go_wp2_with fail
  go_returns
  exact ⟨rfl, rfl⟩

set_option maxRecDepth 100000 in
theorem wlen (b0 G N n : Nat) (w : World) (hW : Wt w b0 G N n) (hn : n ≤ 1099511627776) :
    Calls Try.prog 11 #[.pointer (some ⟨G, 0, none⟩)] w fun e w' => e = .returned (.int .i64 (n : Int)) ∧ ∃ k, w' = w.drewN k := by
  obtain ⟨_, v, hR⟩ := hW
  have c0 := hR.c0
  have c2 := hR.c2
  obtain ⟨A, c, rfl⟩ := own_form hR.own
  rw [putL_length] at c0
  go_enter Try.func11, Try.ntmps11
  go_wp2_with fail
  go_quiet (fail)
  go_wp2_with fail
  go_ret
  exact ⟨ret_int (by simp only [IntKind.wrap_i64]; omega), _, rfl⟩
end Go.Proofs.Ytlgnapapofgdfaa
