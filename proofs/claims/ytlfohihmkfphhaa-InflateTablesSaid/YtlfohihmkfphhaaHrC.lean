/- WALKS: a decoder made. -/
import Derived.Test.YtlfohihmkfphhaaHrB
import Derived.Laws.CopyRow
import Derived.Deep.RegionLaw
import Derived.Deep.AppendLies
namespace Go.Proofs.Ytlfohihmkfphhaa
set_option linter.unusedVariables false
open Go.RowKit
open Go.Proofs.Huf
namespace Huff

theorem run_storeVar_head {P : Program} (w : World) (g : Nat) (t ty : TypeId) (cur cells : Array Value) (hg : w.heap[g]? = some (.cells cur t (0, 0))) (hle : cells.size ≤ cur.size) (hi : (P.info? ty).map (·.size) = some cells.size) (h1 : cells.all (·.oneCell') = true) :
    (storeVar ty ⟨g, 0, none⟩ (.agg cells)).run P w = .ok () (w.setRow g (cells.toList ++ cur.toList.drop cells.size).toArray) := by
  have h := run_storeCells_at P g 0 t cells.toList 0 cur w hg (by simpa using hle) (fun v hv => (Array.all_eq_true_iff_forall_mem.1 h1) v (by simpa using hv))
  simp only [Nat.add_zero, List.take_zero, List.nil_append, Nat.zero_add, Array.length_toList] at h
  cases hq : P.info? ty with
  | none => simp [hq] at hi
  | some i =>
    have hs : cells.size = i.size := by simp [hq] at hi; omega
    rw [hs] at h ⊢
    simp [storeVar, sizeOf, typeInfo, hq, Value.cells, hs, h]
theorem wpList_store_head {P : Program} {ops : Array Oper} {rest : List Oper} {op : Oper} {a : Act} {w : World} {Q : Exit → Act → World → Prop} (hgd : op.guard = none) (ty : TypeId) (x y : Operand) (ho : op.op = .store ty x y)
    (g : Nat) (cells : Array Value) (hx : a.eval x = .pointer (some ⟨g, 0, none⟩)) (hy : a.eval y = .agg cells) (t : TypeId) (cur : Array Value) (hg : w.heap[g]? = some (.cells cur t (0, 0))) (hle : cells.size ≤ cur.size)
    (hi : (P.info? ty).map (·.size) = some cells.size) (h1 : cells.all (·.oneCell') = true)
    (h : wpList P ops Q rest (a.put op.dst undef) (w.setRow g (cells.toList ++ cur.toList.drop cells.size).toArray)) : wpList P ops Q (op :: rest) a w :=
  wpList_plain hgd fun _ hK => by
    unfold Oper.wp execOp
    simp only [ho, hx, hy, Instr.storeAt, Instr.sureAddr, Sem.run_bind, Sem.run_pure, Result.andThen_ok, run_storeVar_head w g t ty cur cells hg hle hi h1]
    exact hK _ _ h

/-- What lies in blocks of other things stays as a row grows. -/
theorem grown_keeps {c w' : World} {base n j T : Nat} {v : Value} {xs : List Value} {t : TypeId} {cs : Array Value} {r : Nat × Nat} (ho : c.ownsRow base T 1 v n xs) (hg : c.grownBy w' v.ownBlock) (hb : c.heap[j]? = some (.cells cs t r)) (ht : t ≠ T) :
    w'.heap[j]? = some (.cells cs t r) := by
  have hlt := (Array.getElem?_eq_some_iff.1 hb).1
  have hne : some j ≠ v.ownBlock := by
    intro e
    rcases ho.2 with ⟨rfl, rfl⟩ | ⟨g, cap, cur, rfl, _, hgc, _⟩
    · simp [Value.ownBlock] at e
    · simp only [Value.ownBlock, Option.some.injEq] at e
      subst e
      rw [hb] at hgc
      simp only [Option.some.injEq, Obj.cells.injEq] at hgc
      exact ht hgc.2.1
  rw [hg.block j hlt hne]
  exact hb

def symV (l : List Nat) : List Value := l.map fun (b : Nat) => Value.int .i64 (b : Int)
theorem symV_length (l : List Nat) : (symV l).length = l.length := by unfold symV; simp
theorem symV_append (l m : List Nat) : symV (l ++ m) = symV l ++ symV m := by unfold symV; simp
theorem infoI : (Try.prog.info? 3).map (fun i => (i.zero, i.size, i.bytes)) = some (some (.int .i64 0), 1, 8) := by kernel_rfl
theorem und22' : Try.prog.underlying 22 = some (.slice 3) := by kernel_rfl

theorem push_at (c : Array Value) (v : Value) (i : Nat) (hc : c.size = 16) (h : i < 16) : (c.push v)[i]? = c[i]? := by
  rw [Array.getElem?_push, if_neg (by omega)]
theorem push_end (c : Array Value) (v : Value) (hc : c.size = 16) : (c.push v)[16]? = some v := by
  rw [Array.getElem?_push, if_pos hc.symm]
theorem push_set (c : Array Value) (v v' : Value) (hc : c.size = 16) : (c.push v).setIfInBounds 16 v' = c.push v' := by
  apply Array.ext_getElem?
  intro i
  rw [Array.getElem?_setIfInBounds, Array.getElem?_push, Array.getElem?_push, Array.size_push]
  by_cases e : 16 = i
  · subst e
    rw [if_pos rfl, if_pos (by omega), if_pos (by omega)]
  · rw [if_neg e]
    by_cases d : i = c.size
    · omega
    · rw [if_neg d, if_neg d]

/-- A decoder: how often each length comes, and the symbols. -/
structure Dc (w W : World) (D b0 : Nat) (c : Array Value) (v : Value) (xs : List Nat) : Prop where
  blk : W.heap[D]? = some (.cells (c.push v) 115 (0, 0))
  own : W.ownsRow b0 3 1 v xs.length (symV xs)
  lowD : D < b0
  below : Below w.heap.size w W
  low : w.heap.size ≤ D
  big : b0 ≤ W.heap.size
theorem Dc.lt {w W : World} {D b0 : Nat} {c : Array Value} {v : Value} {xs : List Nat} (h : Dc w W D b0 c v xs) : D < W.heap.size := (Array.getElem?_eq_some_iff.1 h.blk).1
theorem Dc.form {w W : World} {D b0 : Nat} {c : Array Value} {v : Value} {xs : List Nat} (h : Dc w W D b0 c v xs) : ∃ (A : Option Addr) (cap : Nat), v = .slice A xs.length cap := by
  rcases h.own.2 with ⟨rfl, hx⟩ | ⟨g, cap, _, rfl, _⟩
  · have : xs.length = 0 := hx
    rw [this]
    exact ⟨none, 0, rfl⟩
  · exact ⟨_, cap, rfl⟩
theorem Dc.alloc {w W : World} {D b0 : Nat} {c : Array Value} {v : Value} {xs : List Nat} (h : Dc w W D b0 c v xs) (o : Obj) : Dc w (W.alloc o) D b0 c v xs :=
  ⟨(Below.heap_alloc W o D h.lt).trans h.blk, h.own.alloc o, h.lowD, h.below.alloc h.below.size o, h.low, Nat.le_trans h.big (by simp)⟩
/-- A symbol more. -/
theorem Dc.more {w W W1 : World} {D b0 : Nat} {c : Array Value} {v v' : Value} {xs : List Nat} {x : Nat} (h : Dc w W D b0 c v xs) (hc : c.size = 16) (hg : W.grownBy W1 v.ownBlock) (ho : W1.ownsRow b0 3 1 v' (xs.length + 1) (symV xs ++ [.int .i64 (x : Int)])) :
    W1.cell? ⟨D, 16, none⟩ = some v ∧ W1.frozen? ⟨D, 16, none⟩ = false ∧ Dc w (W1.setCell ⟨D, 16, none⟩ v') D b0 c v' (xs ++ [x]) := by
  have hb := grown_keeps h.own hg h.blk (by decide)
  refine ⟨by rw [cell_of_row _ _ _ _ _ _ hb]; exact push_end c v hc, frozen_of_row _ _ _ _ _ hb, ⟨?_, ?_, h.lowD, ?_, h.low, ?_⟩⟩
  · rw [heap_setCell_same W1 D 16 _ 115 v' hb, push_set _ _ _ hc]
  · rw [List.length_append, symV_append]
    exact ownsRow_setCell_below ho h.lowD v'
  · exact (h.below.grown hg h.below.size (fun k hk => by have := (h.own.lt k hk).1; have := h.low; have := h.lowD; omega)).setCell h.low v'
  · exact Nat.le_trans h.big (by have := hg.size; simpa [World.setCell] using this)

/-- What is handed back of a decoder. -/
def IsNew (g : Nat → Nat) (N : Nat) (w : World) (e : Ending) (w' : World) : Prop := ∃ D b0 v, e = .returned (.tuple #[.pointer (some ⟨D, 0, none⟩), .bool true]) ∧ Dc w w' D b0 (cntV g N) v (syT g N 15)

set_option maxRecDepth 100000 in
set_option maxHeartbeats 2000000 in
theorem new_yes (A : Option Addr) (b off len cap : Nat) (x : Nat → Int) (w : World) (hA : 0 < len → A = some ⟨b, off, none⟩) (hx : Ints w b off len x) (hf : Fine len x) (hk : kindOf (wT (natOf x) len) = 1 ∨ kindOf (wT (natOf x) len) = 2) :
    Calls Try.prog 82 #[.slice A len cap] w (IsNew (natOf x) len w) := by
  have HX := hid hx
  have HA := hid hA
  have HF := hid hf
  have hlen := hf.1
  have hk3 : (((kindOf (wT (natOf x) len) : Nat) : Int) == 3) = false := by simp; omega
  have hk0 : (((kindOf (wT (natOf x) len) : Nat) : Int) == 0) = false := by simp; omega
  obtain ⟨i0, hi, hz0, hz1, hz2⟩ := info_parts infoI
  have HI := hid hi
  clear hx hA hf hk hi
  go_enter Try.func82, Try.ntmps82
  go_wp2_with fail
  refine (kind_yes A b off len cap x _ HA.out HX.out HF.out).mono ?_
  rintro e w1 ⟨rfl, hb1⟩
  generalize kindOf (wT (natOf x) len) = kd at hk3 hk0 ⊢
  have H1 := hid hb1
  have HX1 := hid (HX.out.below hb1)
  clear hb1
  go_wp2_with fail
  have hz := heap_alloc_new w1 (.cells #[.int .i64 0, .int .i64 0, .int .i64 0, .int .i64 0, .int .i64 0, .int .i64 0, .int .i64 0, .int .i64 0, .int .i64 0, .int .i64 0, .int .i64 0, .int .i64 0, .int .i64 0, .int .i64 0, .int .i64 0, .int .i64 0, .slice none 0 0] 115)
  have HB := hid (H1.out.alloc H1.out.size (.cells #[.int .i64 0, .int .i64 0, .int .i64 0, .int .i64 0, .int .i64 0, .int .i64 0, .int .i64 0, .int .i64 0, .int .i64 0, .int .i64 0, .int .i64 0, .int .i64 0, .int .i64 0, .int .i64 0, .int .i64 0, .int .i64 0, .slice none 0 0] 115))
  have HX2 := hid (HX1.out.below ((Below.refl _ _).alloc (Nat.le_refl _) (.cells #[.int .i64 0, .int .i64 0, .int .i64 0, .int .i64 0, .int .i64 0, .int .i64 0, .int .i64 0, .int .i64 0, .int .i64 0, .int .i64 0, .int .i64 0, .int .i64 0, .int .i64 0, .int .i64 0, .int .i64 0, .int .i64 0, .slice none 0 0] 115)))
  have hgt : w1.heap.size < (w1.alloc (.cells #[.int .i64 0, .int .i64 0, .int .i64 0, .int .i64 0, .int .i64 0, .int .i64 0, .int .i64 0, .int .i64 0, .int .i64 0, .int .i64 0, .int .i64 0, .int .i64 0, .int .i64 0, .int .i64 0, .int .i64 0, .int .i64 0, .slice none 0 0] 115)).heap.size := by simp
  generalize w1.alloc (.cells #[.int .i64 0, .int .i64 0, .int .i64 0, .int .i64 0, .int .i64 0, .int .i64 0, .int .i64 0, .int .i64 0, .int .i64 0, .int .i64 0, .int .i64 0, .int .i64 0, .int .i64 0, .int .i64 0, .int .i64 0, .int .i64 0, .slice none 0 0] 115) = W1 at hz HB HX2 hgt ⊢
  have HD := hid (show w.heap.size ≤ w1.heap.size from H1.out.size)
  generalize w1.heap.size = D at hz hgt HD ⊢
  refine (counts_yes A b off len cap x _ HA.out HX2.out HF.out).mono ?_
  rintro e w2 ⟨rfl, hb2⟩
  have hz2 := (hb2.block D hgt).trans hz
  have H2 := hid (HB.out.trans (hb2.mono HB.out.size))
  have hgt2 : D < w2.heap.size := Nat.lt_of_lt_of_le hgt hb2.size
  clear hb2 hz HB HX1 HX2 hgt H1
  go_wp2_with (refine wpList_store_head rfl 97 _ _ rfl D (cntV (natOf x) len) rfl rfl 115 #[.int .i64 0, .int .i64 0, .int .i64 0, .int .i64 0, .int .i64 0, .int .i64 0, .int .i64 0, .int .i64 0, .int .i64 0, .int .i64 0, .int .i64 0, .int .i64 0, .int .i64 0, .int .i64 0, .int .i64 0, .int .i64 0, .slice none 0 0] hz2 (by rw [cntV_size]; decide) (by rw [cntV_size]; exact size97) (cntV_one _ _) ?_)
  have HC := hid (show Dc w (w2.setRow D ((cntV (natOf x) len).toList ++ (#[.int .i64 0, .int .i64 0, .int .i64 0, .int .i64 0, .int .i64 0, .int .i64 0, .int .i64 0, .int .i64 0, .int .i64 0, .int .i64 0, .int .i64 0, .int .i64 0, .int .i64 0, .int .i64 0, .int .i64 0, .int .i64 0, .slice none 0 0] : Array Value).toList.drop (cntV (natOf x) len).size).toArray) D w2.heap.size (cntV (natOf x) len) (.slice none 0 0) (syT (natOf x) len 0 ++ pick (natOf x) 0 1) from
    ⟨by rw [cntV_size]; exact setRow_heap _ _ _ _ _ _ hz2, World.ownsRow_nil _ _ _ _, hgt2, below_setRow H2.out HD.out _, HD.out, by simp⟩)
  generalize w2.setRow D ((cntV (natOf x) len).toList ++ (#[.int .i64 0, .int .i64 0, .int .i64 0, .int .i64 0, .int .i64 0, .int .i64 0, .int .i64 0, .int .i64 0, .int .i64 0, .int .i64 0, .int .i64 0, .int .i64 0, .int .i64 0, .int .i64 0, .int .i64 0, .int .i64 0, .slice none 0 0] : Array Value).toList.drop (cntV (natOf x) len).size).toArray = W3 at HC ⊢
  generalize w2.heap.size = B0 at HC
  clear hz2 hgt2 H2
  have hcs : (cntV (natOf x) len).size = 16 := cntV_size _ _
  have HCS := hid hcs
  clear hcs
  go_loopw [5] (fun k wr => ∃ (m : Nat) (v : Value), m ≤ 15 ∧ k = .int .i64 ((m : Int) + 1) ∧ Dc w wr D B0 (cntV (natOf x) len) v (syT (natOf x) len m)) (fun k _ => 16 - (intOf k).toNat)
  case atStart => exact ⟨0, _, by omega, rfl, HC.out⟩
  case round =>
    obtain ⟨m, v, hm, rfl, hc⟩ := hrel
    have HW := hid hc
    clear hc HC
    by_cases hlt : m < 15
    · have hd15 : decide ((m : Int) + 1 ≤ 15) = true := by rw [decide_eq_true_iff]; omega
      go_wp2_with fail
      obtain ⟨wo, hwo⟩ : ∃ wo : World, wo = wr := ⟨_, rfl⟩
      subst hwo
      go_loopw [6, 7, 29] (fun _ _ i wq => ∃ (j : Nat) (v : Value), j ≤ len ∧ i = .int .i64 j ∧ Dc w wq D B0 (cntV (natOf x) len) v (syT (natOf x) len m ++ pick (natOf x) j (m + 1))) (fun _ _ i _ => len - (intOf i).toNat)
      case atStart => exact ⟨0, v, by omega, rfl, by show Dc w _ D B0 _ v (syT (natOf x) len m ++ []); rw [List.append_nil]; exact HW.out⟩
      case round =>
        obtain ⟨j, v1, hj, rfl, hq⟩ := hrel
        have HQ := hid hq
        clear hq
        by_cases hjl : j < len
        · have hA := HA.out (by omega)
          subst hA
          have a0 : wr.cell? ⟨b, off + j, none⟩ = some (.int .i64 (x j)) := (HQ.out.below.cell (p := ⟨b, off + j, none⟩) (HX.out.lt (by omega))).trans (HX.out.at_ j hjl)
          obtain ⟨x0, x1⟩ := HF.out.2 j hjl
          have HN := hid (show natOf x j = (x j).toNat from rfl)
          generalize x j = y at a0 x0 x1 HN
          by_cases hy : y = (m : Int) + 1
          · have hgn : natOf x j = m + 1 := by rw [HN.out]; omega
            have HP := hid (show syT (natOf x) len m ++ pick (natOf x) (j + 1) (m + 1) = (syT (natOf x) len m ++ pick (natOf x) j (m + 1)) ++ [j] from by
              have e : pick (natOf x) (j + 1) (m + 1) = pick (natOf x) j (m + 1) ++ [j] := by
                show (if natOf x j = m + 1 ∧ m + 1 ≠ 0 then _ else _) = _
                rw [if_pos ⟨hgn, by omega⟩]
              rw [e, List.append_assoc])
            have hle : (syT (natOf x) len m ++ pick (natOf x) j (m + 1)).length ≤ 4800 := by
              rw [List.length_append, syT_length, pick_length]
              have h1 := aT_le (natOf x) len m
              have h2 := cT_le (natOf x) (m + 1) j
              have h3 : m * len ≤ 15 * 300 := Nat.mul_le_mul (by omega) hlen
              omega
            obtain ⟨Q, cq, rfl⟩ := HQ.out.form
            have d0 : wr.cell? ⟨D, 16, none⟩ = some (.slice Q (syT (natOf x) len m ++ pick (natOf x) j (m + 1)).length cq) := by rw [cell_of_row _ _ _ _ _ _ HQ.out.blk]; exact push_end _ _ HCS.out
            generalize syT (natOf x) len m ++ pick (natOf x) j (m + 1) = L at HQ HP hle d0 ⊢
            subst hy
            clear hgn
            have HL1 := hid (show L.length + 1 ≤ maxLen by unfold maxLen; omega)
            have HL2 := hid (show (L.length + 1) * 8 ≤ 140737488355328 by omega)
            have hll : L.length < 5000 := by omega
            clear hle
            go_wp2_with (at_builtin; (refine wpList_append_lies _ (by rfl) _ _ _ (by rfl) B0 3 i0 (.int .i64 0) 1 8 und22' HI.out hz0 hz1 hz2 (by rfl) (by decide) (.slice Q L.length cq) L.length _ (by rfl) (by first | exact HQ.out.own.alloc _ | exact (HQ.out.own.alloc _).drew) ⟨wr.heap.size, 0, none⟩ 1 1 [.int .i64 (j : Int)] (by rfl) (by rfl) (World.news_of_block (heap_alloc_new _ _)) (by simp [Value.oneCell']) (by decide) HL1.out HL2.out (by have := HQ.out.big; simp; omega) (wr.heap.size + 1) (by simp) ?_); intro g1 cap1 w1 hown1 hgrow1 hat1 hlt1; obtain ⟨d1, d2, d3⟩ := (HQ.out.alloc _).more HCS.out hgrow1 hown1; have D3 := hid d3; clear d3 hown1 hgrow1 hat1)
            go_roundw
            case rel => exact ⟨j + 1, _, by omega, by go_num, by rw [HP.out]; exact D3.out⟩
            case measure => simp [intOf]; omega
          · have hgn : natOf x j ≠ m + 1 := by rw [HN.out]; omega
            have HP := hid (show pick (natOf x) (j + 1) (m + 1) = pick (natOf x) j (m + 1) from by
              show (if natOf x j = m + 1 ∧ m + 1 ≠ 0 then _ else _) = _
              rw [if_neg (fun h => hgn h.1)])
            have hyb : (y == (m : Int) + 1) = false := by simpa using hy
            clear hgn
            go_wp2_with fail
            go_roundw
            case rel => exact ⟨j + 1, v1, by omega, by go_num, by rw [HP.out]; exact HQ.out⟩
            case measure => simp [intOf]; omega
        · have ej : j = len := by omega
          have HE := hid (show syT (natOf x) len m ++ pick (natOf x) j (m + 1) = syT (natOf x) len (m + 1) from by rw [ej]; rfl)
          go_wp2_with fail
          go_roundw
          case rel => exact ⟨m + 1, v1, by omega, by simp, by rw [← HE.out]; exact HQ.out⟩
          case measure => simp [intOf]; omega
    · obtain rfl : m = 15 := by omega
      go_wp2_with fail
      go_ret2
      exact ⟨D, B0, v, rfl, HW.out⟩

set_option maxRecDepth 100000 in
set_option maxHeartbeats 1000000 in
theorem new_no (A : Option Addr) (b off len cap : Nat) (x : Nat → Int) (K : Nat) (w : World) (hx : Ints w b off len x)
    (hkind : ∀ w, Ints w b off len x → Calls Try.prog 55 #[.slice A len cap] w fun e w' => e = .returned (.int .i64 (K : Int)) ∧ Below w.heap.size w w') (hk : K = 3 ∨ K = 0) :
    Calls Try.prog 82 #[.slice A len cap] w fun e w' => e = .returned (.tuple #[.pointer none, .bool false]) ∧ Below w.heap.size w w' := by
  have HK := hid hkind
  have HX := hid hx
  clear hkind hx
  rcases hk with rfl | rfl
  all_goals
    go_enter Try.func82, Try.ntmps82
    go_wp2_with fail
    refine (HK.out _ HX.out).mono ?_
    rintro e w1 ⟨rfl, hb1⟩
    have H1 := hid hb1
    clear hb1
    go_wp2_with fail
    go_ret2
    exact ⟨rfl, H1.out⟩
end Huff
end Go.Proofs.Ytlfohihmkfphhaa
