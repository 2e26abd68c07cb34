/- WALKS over the document's own writer of bits. -/
import Derived.Test.YtlgnapapofgdfaaBitB
namespace Go.Proofs.Ytlgnapapofgdfaa
set_option linter.unusedVariables false
open Go.RowKit
open Go.Proofs.Bit
attribute [local go_sem ↓] Go.wp_at_zero Go.wp_at_succ

def bitCells (l : List Nat) : List Value := l.map fun (b : Nat) => Value.int .u32 (b : Int)
theorem bitCells_length (l : List Nat) : (bitCells l).length = l.length := by unfold bitCells; simp
theorem bitCells_append (l m : List Nat) : bitCells (l ++ m) = bitCells l ++ bitCells m := by unfold bitCells; simp
theorem und27 : Try.prog.underlying 27 = some (.slice 32) := by kernel_rfl
theorem info32 : (Try.prog.info? 32).map (fun i => (i.zero, i.size, i.bytes)) = some (some (.int .u32 0), 1, 4) := by kernel_rfl

/-- The document's writer, between other things. -/
structure Rt (w : World) (b0 G N n : Nat) (v : Value) : Prop where
  lt2 : N < 2 ^ n
  low : G < b0
  blk : w.heap[G]? = some (.cells #[v] 29 (0, 0))
  own : w.ownsRow b0 32 1 v n (bitCells (bitsL N n))
theorem Rt.lt {w : World} {b0 G N n : Nat} {v : Value} (h : Rt w b0 G N n v) : G < w.heap.size := (Array.getElem?_eq_some_iff.1 h.blk).1
theorem Rt.c0 {w : World} {b0 G N n : Nat} {v : Value} (h : Rt w b0 G N n v) : w.cell? ⟨G, 0, none⟩ = some v := by rw [cell_of_row _ _ _ _ _ _ h.blk]; rfl
theorem Rt.fr {w : World} {b0 G N n : Nat} {v : Value} (h : Rt w b0 G N n v) : w.frozen? ⟨G, 0, none⟩ = false := frozen_of_row _ _ _ _ _ h.blk
theorem Rt.drew {w : World} {b0 G N n : Nat} {v : Value} (h : Rt w b0 G N n v) : Rt w.drew b0 G N n v := ⟨h.lt2, h.low, h.blk, h.own.drew⟩
theorem Rt.alloc {w : World} {b0 G N n : Nat} {v : Value} (h : Rt w b0 G N n v) (o : Obj) : Rt (w.alloc o) b0 G N n v := ⟨h.lt2, h.low, (Below.heap_alloc w o G h.lt).trans h.blk, h.own.alloc o⟩
theorem own_form32 {w : World} {base n : Nat} {v : Value} {xs : List Value} (h : w.ownsRow base 32 1 v n xs) : ∃ (A : Option Addr) (cap : Nat), v = .slice A n cap := by
  rcases h.2 with ⟨rfl, rfl⟩ | ⟨g, cap, _, rfl, _⟩
  · exact ⟨none, 0, rfl⟩
  · exact ⟨_, cap, rfl⟩

/-- A bit more. -/
theorem bit_more {w c w1 : World} {b0 G N n : Nat} {v v' : Value} {x : Nat} (hR : Rt c b0 G N n v) (hK : Keep G 32 w c) (hg : c.grownBy w1 v.ownBlock) (ho : w1.ownsRow b0 32 1 v' (n + 1) (bitCells (bitsL N n) ++ [.int .u32 ((x % 2 : Nat) : Int)])) :
    w1.cell? ⟨G, 0, none⟩ = some v ∧ w1.frozen? ⟨G, 0, none⟩ = false ∧ Rt (w1.setCell ⟨G, 0, none⟩ v') b0 G (N + 2 ^ n * (x % 2)) (n + 1) v' ∧ Keep G 32 w (w1.setCell ⟨G, 0, none⟩ v') ∧ c.heap.size ≤ w1.heap.size := by
  have hb := grown_keeps hR.own hg hR.blk (by decide)
  refine ⟨by rw [cell_of_row _ _ _ _ _ _ hb]; rfl, frozen_of_row _ _ _ _ _ hb, ⟨?_, hR.low, heap_setCell_same w1 G 0 _ 29 v' hb, ?_⟩, (hK.grown hR.own hg hR.lt hR.low).setCell 0 v', hg.size⟩
  · exact more_lt N (x % 2) n 1 hR.lt2 (by omega)
  · have e : bitCells (bitsL (N + 2 ^ n * (x % 2)) (n + 1)) = bitCells (bitsL N n) ++ [.int .u32 ((x % 2 : Nat) : Int)] := by
      rw [bitsL_succ, bitsL_low, bit_next _ _ _ hR.lt2, bitCells_append, Nat.mod_mod]; rfl
    rw [e]
    exact ownsRow_setCell_below ho hR.low v'

/-- The bits so far. -/
theorem bits_step (N n v i : Nat) : N + 2 ^ n * (v % 2 ^ i) + 2 ^ (n + i) * (v / 2 ^ i % 2) = N + 2 ^ n * (v % 2 ^ (i + 1)) := by
  rw [Nat.pow_add, Nat.mul_assoc, Nat.add_assoc, ← Nat.mul_add, Nat.pow_succ, Nat.mod_mul]
theorem half_step (v i : Nat) : v / 2 ^ i / 2 = v / 2 ^ (i + 1) := by rw [Nat.pow_succ, Nat.div_div_eq_div_mul]

set_option maxRecDepth 100000 in
set_option maxHeartbeats 4000000 in
theorem rbits (b0 G N n v : Nat) (cnt : Int) (w : World) (hW : ∃ x, Rt w b0 G N n x) (hb0 : b0 ≤ w.heap.size) (hv : v < 4294967296) (hc0 : -9223372036854775808 ≤ cnt) (hc1 : cnt ≤ 9223372036854775807) (hn : n ≤ 1048576) :
    Calls Try.prog 6 #[.pointer (some ⟨G, 0, none⟩), .int .u32 (v : Int), .int .i64 cnt] w fun e w' => e = .returned (.tuple #[]) ∧ (∃ x, Rt w' b0 G (N + 2 ^ n * (v % 2 ^ manyN cnt)) (n + manyN cnt) x) ∧ Keep G 32 w w' := by
  have HK := hid (show ((manyN cnt : Nat) : Int) = min (max cnt 0) 32 by unfold manyN; omega)
  have hk := manyN_le cnt
  generalize manyN cnt = k at HK hk ⊢
  obtain ⟨x0, hR0⟩ := hW
  have HR0 := hid hR0
  obtain ⟨i0, hi, hz0, hz1, hz2⟩ := info_parts info32
  have HI := hid hi
  clear hi hR0
  go_enter Try.func6, Try.ntmps6
  go_wp2_with fail
  go_loopw [1, 6] (fun vv ii wr => ∃ i : Nat, i ≤ k ∧ ii = .int .i64 i ∧ vv = .int .u32 ((v / 2 ^ i : Nat) : Int) ∧ b0 ≤ wr.heap.size ∧ (∃ x, Rt wr b0 G (N + 2 ^ n * (v % 2 ^ i)) (n + i) x) ∧ Keep G 32 w wr) (fun _ ii _ => 40 - (intOf ii).toNat)
  case atStart => exact ⟨0, by omega, rfl, val_int (by simp), hb0, ⟨x0, by simpa [Nat.mod_one] using HR0.out⟩, Keep.refl _ _ _⟩
  case round =>
    obtain ⟨i, hi, rfl, rfl, hbw, ⟨x1, hr⟩, hkp⟩ := hrel
    have HRI := hid hr
    have HKI := hid hkp
    have HBW := hid hbw
    have c0 := hr.c0
    have f0 := hr.fr
    have hGl := hr.lt
    obtain ⟨A, cap, rfl⟩ := own_form32 hr.own
    clear hr hkp
    have hvi : v / 2 ^ i < 4294967296 := Nat.lt_of_le_of_lt (Nat.div_le_self _ _) hv
    have HBS := hid (bits_step N n v i)
    have HHS := hid (half_step v i)
    by_cases hlt : i < k
    · have hlt2 : (i : Int) < cnt := by have := HK.out; omega
      obtain ⟨y, hy⟩ : ∃ y, v / 2 ^ i = y := ⟨_, rfl⟩
      rw [hy] at HBS HHS hvi ⊢
      generalize N + 2 ^ n * (v % 2 ^ i) = M at *
      have HL1 := hid (show n + i + 1 ≤ maxLen by unfold maxLen; omega)
      have HL2 := hid (show (n + i + 1) * 4 ≤ 140737488355328 by omega)
      go_wp2_with (at_builtin; (refine wpList_append_lies _ (by rfl) _ _ _ (by rfl) b0 32 i0 (.int .u32 0) 1 4 und27 HI.out hz0 hz1 hz2 (by rfl) (by decide) (.slice A (n + i) cap) (n + i) _ (by rfl) (by first | exact HRI.out.own.alloc _ | exact (HRI.out.own.alloc _).drew) ⟨wr.heap.size, 0, none⟩ 1 1 [.int .u32 ((y : Int) % 2)] (by rfl) (by rfl) (World.news_of_block (heap_alloc_new _ _)) (by simp [Value.oneCell']) (by decide) HL1.out HL2.out (by have := HBW.out; simp; omega) (wr.heap.size + 1) (by simp) ?_); intro g1 cap1 w1 hown1 hgrow1 hat1 hlt1; obtain ⟨d0, d1, d2, d3, d4⟩ := bit_more (x := y) (by first | exact HRI.out.alloc _ | exact (HRI.out.alloc _).drew) (by first | exact HKI.out.alloc hGl _ | exact (HKI.out.alloc hGl _).drew) hgrow1 hown1; have D2 := hid d2; have D3 := hid d3; have D4 := hid d4; clear d2 d3 d4 hown1 hgrow1 hat1)
      go_roundw
      case rel =>
        refine ⟨i + 1, by omega, by go_num, val_int (by rw [← HHS.out]; omega), ?_, ⟨_, by have h := D2.out; rw [HBS.out] at h; exact h⟩, D3.out⟩
        have h1 := D4.out
        have h2 := HBW.out
        simp at h1 ⊢
        omega
      case measure => simp [intOf]; omega
    · obtain rfl : i = k := by omega
      by_cases hlt3 : (i : Int) < cnt
      · have h32 : ¬ (i : Int) < 32 := by have := HK.out; omega
        go_wp2_with fail
        go_returns
        exact ⟨rfl, ⟨_, HRI.out⟩, HKI.out⟩
      · go_wp2_with fail
        go_returns
        exact ⟨rfl, ⟨_, HRI.out⟩, HKI.out⟩
end Go.Proofs.Ytlgnapapofgdfaa
