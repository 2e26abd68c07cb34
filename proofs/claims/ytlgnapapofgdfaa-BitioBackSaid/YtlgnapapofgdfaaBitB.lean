/- WALKS over the program's writer of bits: bits laid. -/
import Derived.Test.YtlgnapapofgdfaaBitV
import Derived.StillTailTactics
import Derived.Deep.RegionLaw
namespace Go.Proofs.Ytlgnapapofgdfaa
set_option linter.unusedVariables false
open Go.RowKit
open Go.Proofs.Bit
attribute [local go_sem ↓] Go.wp_at_zero Go.wp_at_succ

theorem mask64 (v k : Nat) (hk : k ≤ 32) (hv : v < 4294967296) : bits .and .u64 (v : Int) (IntKind.u64.wrap (IntKind.u64.wrap (2 ^ k) - 1)) = ((v % 2 ^ k : Nat) : Int) := by
  have hp : 2 ^ k ≤ 2 ^ 32 := Nat.pow_le_pow_right (by decide) hk
  have hp0 : 1 ≤ 2 ^ k := Nat.one_le_two_pow
  have e0 : ((2 : Int) ^ k) = ((2 ^ k : Nat) : Int) := by simp
  have e1 : IntKind.u64.wrap (IntKind.u64.wrap (2 ^ k) - 1) = ((2 ^ k - 1 : Nat) : Int) := by
    rw [e0, IntKind.wrap_u64, IntKind.wrap_u64]
    omega
  rw [e1, bits_and_u64_nat v (2 ^ k - 1) (by omega) (by omega), Nat.and_two_pow_sub_one_eq_mod]

theorem or_add64 (a x m : Nat) (ha : a < 2 ^ m) (hm : m ≤ 7) (hx : x < 4294967296) :
    bits .or .u64 (a : Int) (IntKind.u64.wrap ((x : Int) * 2 ^ m)) = ((a + 2 ^ m * x : Nat) : Int) := by
  have hp : 2 ^ m ≤ 2 ^ 7 := Nat.pow_le_pow_right (by decide) hm
  have e0 : ((x : Int) * 2 ^ m) = ((x * 2 ^ m : Nat) : Int) := by simp
  have hb : x * 2 ^ m ≤ 4294967295 * 128 := Nat.mul_le_mul (by omega) hp
  have e1 : IntKind.u64.wrap ((x : Int) * 2 ^ m) = ((x * 2 ^ m : Nat) : Int) := by rw [e0, IntKind.wrap_u64]; omega
  rw [e1, bits_or_u64_nat a (x * 2 ^ m) (by omega) (by omega), Nat.or_comm, Nat.mul_comm, ← Nat.two_pow_add_eq_or_of_lt ha, Nat.add_comm]

/-- What lies in blocks of other things stays as a row grows. -/
theorem grown_keeps {c w' : World} {base n j T : Nat} {v : Value} {xs : List Value} {t : TypeId} {cs : Array Value} {r : Nat × Nat} (ho : c.ownsRow base T 1 v n xs) (hg : c.grownBy w' v.ownBlock) (hb : c.heap[j]? = some (.cells cs t r)) (ht : t ≠ T) :
    w'.heap[j]? = some (.cells cs t r) := by
  have hlt := (Array.getElem?_eq_some_iff.1 hb).1
  have hne : some j ≠ v.ownBlock := by
    intro e
    rcases ho.2 with ⟨rfl, rfl⟩ | ⟨g, cap, cur, rfl, _, hgc, _⟩
    · simp [Value.ownBlock] at e
    · simp only [Value.ownBlock, Option.some.injEq] at e
      subst e
      rw [hb] at hgc
      simp only [Option.some.injEq, Obj.cells.injEq] at hgc
      exact ht hgc.2.1
  rw [hg.block j hlt hne]
  exact hb

theorem Keep.alloc {G T : Nat} {a b : World} (h : Keep G T a b) (hG : G < b.heap.size) (o : Obj) : Keep G T a (b.alloc o) :=
  ⟨fun j cs t r h1 h2 h3 => by
    have hj := h.others j cs t r h1 h2 h3
    exact (Below.heap_alloc b o j (Array.getElem?_eq_some_iff.1 hj).1).trans hj, h.below.alloc (Nat.le_of_lt hG) o, h.kinds.trans (KeepsOthers.alloc _ _)⟩
theorem Keep.drew {G T : Nat} {a b : World} (h : Keep G T a b) : Keep G T a b.drew := ⟨h.others, h.below.drew, h.kinds.trans (KeepsOthers.drew _)⟩
theorem Keep.grown {G T base n : Nat} {a b c : World} {v : Value} {xs : List Value} (h : Keep G T a b) (ho : b.ownsRow base T 1 v n xs) (hg : b.grownBy c v.ownBlock) (hG : G < b.heap.size) (hb : G < base) : Keep G T a c :=
  ⟨fun j cs t r h1 h2 h3 => grown_keeps ho hg (h.others j cs t r h1 h2 h3) h2, h.below.grown hg (Nat.le_of_lt hG) (fun k hk => by have := (ho.lt k hk).1; omega), h.kinds.trans (KeepsOthers.of_grownBy hg fun j o ej hj => by
    rcases ho.2 with ⟨rfl, _⟩ | ⟨g, cap, cur, rfl, _, hgb, _⟩
    · simp [Value.ownBlock] at ej
    · obtain rfl : g = j := by simpa [Value.ownBlock] using ej
      rw [hgb] at hj
      cases hj
      rfl)⟩

theorem set_a {w : World} {b0 G : Nat} {v : Value} {l : List UInt8} {a b : Int} (h : Raw w b0 G v l a b) (c : Int) : Raw (w.setCell ⟨G, 1, none⟩ (.int .u64 c)) b0 G v l c b :=
  ⟨h.low, heap_setCell_same w G 1 _ 26 _ h.blk, ownsRow_setCell_below h.own h.low _⟩
theorem set_b {w : World} {b0 G : Nat} {v : Value} {l : List UInt8} {a b : Int} (h : Raw w b0 G v l a b) (c : Int) : Raw (w.setCell ⟨G, 2, none⟩ (.int .i64 c)) b0 G v l a c :=
  ⟨h.low, heap_setCell_same w G 2 _ 26 _ h.blk, ownsRow_setCell_below h.own h.low _⟩
theorem set_v {w w1 : World} {b0 G : Nat} {v v' : Value} {l m : List UInt8} {a b : Int} (h : Raw w b0 G v l a b) (hg : w.grownBy w1 v.ownBlock) (ho : w1.ownsRow b0 5 1 v' (l.length + m.length) (byteCells l ++ byteCells m)) :
    Raw (w1.setCell ⟨G, 0, none⟩ v') b0 G v' (l ++ m) a b :=
  ⟨h.low, heap_setCell_same w1 G 0 _ 26 v' (grown_keeps h.own hg h.blk (by decide)), by rw [List.length_append, byteCells_append]; exact ownsRow_setCell_below ho h.low v'⟩

theorem Raw.alloc {w : World} {b0 G : Nat} {v : Value} {l : List UInt8} {rest many : Int} (h : Raw w b0 G v l rest many) (o : Obj) : Raw (w.alloc o) b0 G v l rest many :=
  ⟨h.low, (Below.heap_alloc w o G h.lt).trans h.blk, h.own.alloc o⟩

theorem app_next {w c w1 : World} {b0 G : Nat} {v v' : Value} {l m : List UInt8} {a b : Int} {xs : List Value} (hR : Raw c b0 G v l a b) (hK : Keep G 5 w c) (hg : c.grownBy w1 v.ownBlock) (ho : w1.ownsRow b0 5 1 v' (l.length + 1) (byteCells l ++ xs)) (hm : byteCells m = xs) (h1 : m.length = 1) :
    w1.cell? ⟨G, 0, none⟩ = some v ∧ w1.frozen? ⟨G, 0, none⟩ = false ∧ Raw (w1.setCell ⟨G, 0, none⟩ v') b0 G v' (l ++ m) a b ∧ Keep G 5 w (w1.setCell ⟨G, 0, none⟩ v') ∧ c.heap.size ≤ w1.heap.size := by
  have hb := grown_keeps hR.own hg hR.blk (by decide)
  subst hm
  refine ⟨by rw [cell_of_row _ _ _ _ _ _ hb]; rfl, frozen_of_row _ _ _ _ _ hb, set_v hR hg (by rw [h1]; exact ho), (hK.grown hR.own hg hR.lt hR.low).setCell 0 v', hg.size⟩

set_option maxRecDepth 100000 in
set_option maxHeartbeats 4000000 in
theorem wbits (b0 G N n v : Nat) (cnt : Int) (w : World) (hW : Wt w b0 G N n) (hb0 : b0 ≤ w.heap.size) (hv : v < 4294967296) (hc0 : -9223372036854775808 ≤ cnt) (hc1 : cnt ≤ 9223372036854775807) (hn : n ≤ 1099511627776) :
    Calls Try.prog 5 #[.pointer (some ⟨G, 0, none⟩), .int .u32 (v : Int), .int .i64 cnt] w fun e w' => e = .returned (.tuple #[]) ∧ Wt w' b0 G (N + 2 ^ n * (v % 2 ^ manyN cnt)) (n + manyN cnt) ∧ Keep G 5 w w' := by
  obtain ⟨hN, v0, hR⟩ := hW
  have HK := hid (show ((manyN cnt : Nat) : Int) = min (max cnt 0) 32 by unfold manyN; omega)
  have hk := manyN_le cnt
  generalize manyN cnt = k at HK hk ⊢
  have hvw : IntKind.u64.wrap (v : Int) = (v : Int) := by rw [IntKind.wrap_u64]; omega
  have HM := mask64 v k hk hv
  have hx : v % 2 ^ k < 2 ^ k := Nat.mod_lt _ (Nat.two_pow_pos _)
  have hx2 : v % 2 ^ k < 4294967296 := Nat.lt_of_le_of_lt (Nat.mod_le _ _) hv
  have HN' := hid (more_lt N (v % 2 ^ k) n k hN hx)
  have HRM := hid (rest_more N (v % 2 ^ k) n)
  have HFL := hid (full_low N (v % 2 ^ k) n)
  have hrl := rest_lt N n hN
  have hm7 : n % 8 ≤ 7 := by omega
  have HOR := or_add64 (N / 256 ^ (n / 8)) (v % 2 ^ k) (n % 8) hrl hm7 hx2
  rw [← HRM.out, ← HM, ← hvw] at HOR
  rw [← HFL.out] at hR
  have hr64 : N / 256 ^ (n / 8) < 18446744073709551616 := by
    have : 2 ^ (n % 8) ≤ 2 ^ 7 := Nat.pow_le_pow_right (by decide) hm7
    omega
  have hbd : ∀ i, (N + 2 ^ n * (v % 2 ^ k)) / 256 ^ (n / 8 + i) < 18446744073709551616 := by
    intro i
    have h1 : (N + 2 ^ n * (v % 2 ^ k)) / 256 ^ (n / 8 + i) ≤ (N + 2 ^ n * (v % 2 ^ k)) / 256 ^ (n / 8) := Nat.div_le_div_left (Nat.pow_le_pow_right (by decide) (by omega)) (Nat.pow_pos (by decide))
    have h2 : 2 ^ (n % 8) ≤ 2 ^ 7 := Nat.pow_le_pow_right (by decide) hm7
    have h3 : 2 ^ (n % 8) * (v % 2 ^ k) ≤ 128 * 4294967295 := Nat.mul_le_mul h2 (by omega)
    have h4 := HRM.out
    omega
  clear HFL HRM hrl hN HM hvw hx hx2
  generalize N + 2 ^ n * (v % 2 ^ k) = N' at *
  obtain ⟨f, hf⟩ : ∃ f, n / 8 = f := ⟨_, rfl⟩
  obtain ⟨m, hm⟩ : ∃ m, n % 8 = m := ⟨_, rfl⟩
  rw [hf] at hR HOR hr64 hbd
  rw [hm] at hR HOR hm7
  have hn8 : n = 8 * f + m := by omega
  clear hf hm
  generalize N / 256 ^ f = R at hR HOR hr64
  have HOR := hid HOR
  have HR := hid hR
  have HBD := hid hbd
  have c1 := hR.c1
  have c2 := hR.c2
  have f1 := hR.fr 1
  have f2 := hR.fr 2
  clear hR hbd
  go_enter Try.func5, Try.ntmps5
  go_upto_region 2 with fail
  have hs2 : (if (32 : Int) < (if cnt < 0 then 0 else cnt) then 32 else (if cnt < 0 then 0 else cnt)) = (k : Int) := by have := HK.out; omega
  rw [hs2]
  clear hs2
  generalize (if cnt < 0 then 0 else cnt) = z
  go_still_tail 18, (by kernel_rfl)
  change wpList _ _ _ _ _ w.drew
  have HR1 := hid HR.out.drew
  have HKP := hid ((Keep.refl G 5 w).drew)
  have c1 := HR1.out.c1
  have c2 := HR1.out.c2
  have f1 := HR1.out.fr 1
  have f2 := HR1.out.fr 2
  have hsz : w.drew.heap.size = w.heap.size := rfl
  generalize w.drew = w2 at *
  have HB0 := hid (show b0 ≤ w2.heap.size by rw [hsz]; exact hb0)
  have e0 : ((N' : Int) / 256 ^ f) = ((N' / 256 ^ f : Nat) : Int) := by simp
  have HS := hid (show Raw ((w2.setCell ⟨G, 1, none⟩ (.int .u64 ((N' : Int) / 256 ^ f))).setCell ⟨G, 2, none⟩ (.int .i64 ((m : Int) + (k : Int)))) b0 G v0 (putL N' f) ((N' / 256 ^ f : Nat) : Int) ((m : Int) + (k : Int)) from by
    rw [e0]; exact set_b (set_a HR1.out _) _)
  have HKS := hid (show Keep G 5 w ((w2.setCell ⟨G, 1, none⟩ (.int .u64 ((N' : Int) / 256 ^ f))).setCell ⟨G, 2, none⟩ (.int .i64 ((m : Int) + (k : Int)))) from (HKP.out.setCell 1 _).setCell 2 _)
  clear e0 HOR HR HR1 HKP
  go_upto_region 5 with fail
  generalize hW : ((w2.setCell ⟨G, 1, none⟩ (.int .u64 ((N' : Int) / 256 ^ f))).setCell ⟨G, 2, none⟩ (.int .i64 ((m : Int) + (k : Int)))) = W at *
  have hWs : W.heap.size = w2.heap.size := by rw [← hW]; simp
  clear hW c1 c2 f1 f2
  go_loopg [] 8 (fun g wx => ∃ j : Nat, g = 8 - j ∧ 8 * j ≤ m + k ∧ b0 ≤ wx.heap.size ∧ (∃ v, Raw wx b0 G v (putL N' (f + j)) ((N' / 256 ^ (f + j) : Nat) : Int) (((m + k - 8 * j : Nat)) : Int)) ∧ Keep G 5 w wx)
  case atStart => exact ⟨0, rfl, by omega, by rw [hWs]; exact HB0.out, ⟨v0, by have := HS.out; simpa using this⟩, HKS.out⟩
  case round =>
    obtain ⟨j, rfl, hj, hbw, ⟨v1, hr⟩, hkp⟩ := hrel
    have HRJ := hid hr
    have HKJ := hid hkp
    have hb := HBD.out j
    have hb1 := HBD.out (j + 1)
    have c0 := hr.c0
    have c1 := hr.c1
    have c2 := hr.c2
    have f0 := hr.fr 0
    have f1 := hr.fr 1
    have f2 := hr.fr 2
    obtain ⟨A, cap, rfl⟩ := own_form hr.own
    have hGl := hr.lt
    clear hr hkp
    have HPS := hid (putL_succ N' (f + j))
    have HLN := hid (putL_length N' (f + j))
    have HDV := hid (show N' / 256 ^ (f + j) / 256 = N' / 256 ^ (f + (j + 1)) by rw [Nat.div_div_eq_div_mul, ← Nat.pow_succ]; rfl)
    obtain ⟨l, hl⟩ : ∃ l, putL N' (f + j) = l := ⟨_, rfl⟩
    rw [hl] at HPS HLN HRJ c0
    have HLQ := hid hl
    clear hl
    obtain ⟨r, hr⟩ : ∃ r, N' / 256 ^ (f + j) = r := ⟨_, rfl⟩
    rw [hr] at HPS HDV hb HRJ c1
    have HRQ := hid hr
    obtain ⟨M, hM⟩ : ∃ M, m + k - 8 * j = M := ⟨_, rfl⟩
    rw [hM] at HRJ c2
    clear hr
    by_cases hge : 8 ≤ M
    · obtain ⟨i0, hi, hz0, hz1, hz2⟩ := info_parts info5
      have HI := hid hi
      clear hi
      have HL1 := hid (show l.length + 1 ≤ maxLen by rw [HLN.out]; unfold maxLen; omega)
      have HL2 := hid (show (l.length + 1) * 1 ≤ 140737488355328 by rw [HLN.out]; omega)
      go_upto_region 5 with fail
      have hcv := byteCells_append l [UInt8.ofNat (r % 256)]
      have hcell : byteCells [UInt8.ofNat (r % 256)] = [Value.int .u8 (IntKind.u8.wrap (r : Int))] := by
        unfold byteCells
        have e : (UInt8.ofNat (r % 256)).toNat = r % 256 := by simp
        rw [List.map_cons, e]
        have e2 : ((r % 256 : Nat) : Int) = IntKind.u8.wrap (r : Int) := by rw [IntKind.wrap_u8]; rfl
        rw [e2]; rfl
      have HCV := hid hcell
      clear hcv hcell
      have y0 := World.new_ne wr _ c0
      have y1 := World.new_ne wr _ c1
      have ye : G ≠ wr.heap.size := by omega
      have HBW := hid hbw
      go_cut [] (fun wx => b0 ≤ wx.heap.size ∧ (∃ v', Raw wx b0 G v' (l ++ [UInt8.ofNat (r % 256)]) (r : Int) (M : Int)) ∧ Keep G 5 w wx)
      case first =>
        go_region_law ((refine step_append_lies _ (by rfl) _ _ _ (by rfl) b0 5 i0 (.int .u8 0) 1 1 und23 HI.out hz0 hz1 hz2 (by rfl) (by decide) (.slice A l.length cap) l.length _ (by rfl) (by first | exact HRJ.out.own.alloc _ | exact (HRJ.out.own.alloc _).drew | exact HRJ.out.own.drew.alloc _) ⟨wr.heap.size, 0, none⟩ 1 1 [.int .u8 (IntKind.u8.wrap (r : Int))] (by rfl) (by rfl) (World.news_of_block (heap_alloc_new _ _)) (by simp [Value.oneCell']) (by decide) HL1.out HL2.out (by have := HBW.out; simp; omega) (wr.heap.size + 1) (by simp) ?_; intro g1 cap1 w1 hown1 hgrow1 hat1 hlt1; obtain ⟨d0, d1, d2, d3, d4⟩ := app_next (by first | exact HRJ.out.alloc _ | exact (HRJ.out.alloc _).drew | exact HRJ.out.drew.alloc _) (by first | exact HKJ.out.alloc hGl _ | exact (HKJ.out.alloc hGl _).drew | exact HKJ.out.drew.alloc hGl _) hgrow1 hown1 HCV.out rfl; have D2 := hid d2; have D3 := hid d3; have D4 := hid d4; clear d2 d3 d4 hown1 hgrow1 hat1))
        all_goals go_wp2_with fail
        all_goals go_meet
        all_goals
          refine ⟨?_, ⟨.slice (some ⟨g1, 0, none⟩) (l.length + 1) cap1, ?_⟩, ?_⟩
          · have h1 := D4.out
            have h2 := HBW.out
            simp at h1 ⊢
            omega
          · first | exact D2.out | exact D2.out.drew
          · first | exact D3.out | exact D3.out.drew
      case rest =>
        obtain ⟨hbx, ⟨v2, hr2⟩, hk2⟩ := hcut
        have HR2 := hid hr2
        have HK2 := hid hk2
        have HBX := hid hbx
        have x1 := hr2.c1
        have x2 := hr2.c2
        have z1 := hr2.fr 1
        have z2 := hr2.fr 2
        clear hr2 hk2 hbx c0 c1 c2 f0 f1 f2
        go_wp2_with fail
        go_roundg (8 - (j + 1))
        case measure => omega
        case rel =>
          refine ⟨j + 1, rfl, by omega, by simpa using HBX.out, ⟨v2, ?_⟩, (HK2.out.setCell 1 _).setCell 2 _⟩
          have e1 : ((r : Int) / 256) = ((N' / 256 ^ (f + (j + 1)) : Nat) : Int) := by rw [← HDV.out]; simp
          have e2 : ((M : Int) - 8) = ((m + k - 8 * (j + 1) : Nat) : Int) := by omega
          have e3 : putL N' (f + (j + 1)) = l ++ [UInt8.ofNat (r % 256)] := HPS.out
          rw [e3, ← e1, ← e2]
          exact set_b (set_a HR2.out _) _
    · go_wp2_with fail
      go_returns
      have ef : (n + k) / 8 = f + j := by omega
      have em : (n + k) % 8 = M := by omega
      refine ⟨rfl, ⟨HN'.out, .slice A l.length cap, ?_⟩, HKJ.out⟩
      rw [ef, em, HLQ.out, HRQ.out]
      exact HRJ.out
end Go.Proofs.Ytlgnapapofgdfaa
