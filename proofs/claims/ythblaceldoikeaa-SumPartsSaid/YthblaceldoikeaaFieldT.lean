/- FieldReads: the walk: any steps of reading any text. -/
import Derived.Test.YthblaceldoikeaaFieldS
import Derived.Deep.DeepCutAuto
import Derived.Deep.CutBlock
namespace Go.Proofs.Ythblaceldoikeaa
set_option linter.unusedVariables false
open Go.RowKit
open Go.Proofs.Num
namespace Fld
attribute [local go_sem ↓] Go.wp_at_zero Go.wp_at_succ

theorem alloc_old (w : World) (o : Obj) (g : Nat) {T : TypeId} {s : ByteArray} {p : Nat} {bad : Bool} (h : Rd w g T s p bad) : Rd (w.alloc o) g T s p bad := by
  have hl := h.lt
  have e := Below.heap_alloc w o g hl
  exact e.trans h

theorem only_cell {g : Nat} {w w' : World} (h : Only g w w') (b o : Nat) (hb : b < w.heap.size) (hn : b ≠ g) : w'.cell? ⟨b, o, none⟩ = w.cell? ⟨b, o, none⟩ :=
  World.cell?_of_block (w := w) (h.block b hb hn)

/-- Steps that lie in a row. -/
def StepsAt (w : World) (b off n : Nat) (K N : Nat → Int) : Prop := ∀ i, i < n → w.cell? ⟨b, off + i * 2, none⟩ = some (.int .u64 (K i)) ∧ w.cell? ⟨b, off + i * 2 + 1, none⟩ = some (.int .i64 (N i)) ∧
  0 ≤ K i ∧ K i ≤ 18446744073709551615 ∧ -9223372036854775808 ≤ N i ∧ N i ≤ 9223372036854775807

theorem cell_new1 (w : World) (a b : Value) (T : TypeId) : (w.alloc (.cells #[a, b] T)).cell? ⟨w.heap.size, 1, none⟩ = some b := by
  rw [cell_of_row _ _ _ _ _ _ (heap_alloc_new _ _)]; rfl

/-- Both readers stand alike. -/
structure Both (w wr : World) (s : ByteArray) (p : Nat) (bad : Bool) : Prop where
  one : Rd wr w.heap.size 108 s p bad
  two : Rd wr (w.heap.size + 1) 33 s p bad
  below : Below w.heap.size w wr
  size : w.heap.size + 2 ≤ wr.heap.size

theorem both_start (w : World) (s : ByteArray) : Both w ((w.alloc (.cells #[.string s, .int .i64 0, .bool false] 108)).alloc (.cells #[.string s, .int .i64 0, .bool false] 33)) s 0 false :=
  ⟨heap_alloc2_old _ _ _, heap_alloc2_new _ _ _, ((Below.refl _ _).alloc (Nat.le_refl _) _).alloc (by simp) _, by simp⟩
theorem Both.alloc {w wr : World} {s : ByteArray} {p : Nat} {bad : Bool} (h : Both w wr s p bad) (o : Obj) : Both w (wr.alloc o) s p bad :=
  ⟨alloc_old _ _ _ h.one, alloc_old _ _ _ h.two, h.below.alloc h.below.size _, by have := h.size; simp; omega⟩

theorem Both.drew {w wr : World} {s : ByteArray} {p : Nat} {bad : Bool} (h : Both w wr s p bad) : Both w wr.drew s p bad := ⟨h.one, h.two, h.below.drew, h.size⟩
theorem Both.drewN {w wr : World} {s : ByteArray} {p : Nat} {bad : Bool} (h : Both w wr s p bad) (n : Nat) : Both w (wr.drewN n) s p bad := ⟨h.one, h.two, below_drewN h.below n, h.size⟩

/-- The first reader has gone on, the second one not yet. -/
structure Half (w wr : World) (s : ByteArray) (p : Nat) (bad : Bool) (q : Nat) (b' : Bool) : Prop where
  one : Rd wr w.heap.size 108 s q b'
  two : Rd wr (w.heap.size + 1) 33 s p bad
  below : Below w.heap.size w wr
  size : w.heap.size + 2 ≤ wr.heap.size

theorem Both.half {w X Y : World} {s : ByteArray} {p q : Nat} {bad b' : Bool} (h : Both w X s p bad) (hl : Left X w.heap.size 108 s q b' Y) : Half w Y s p bad q b' :=
  ⟨hl.rd, h.two.other hl.only (Nat.succ_ne_self _), hl.only.below h.below (Nat.le_refl _), Nat.le_trans h.size hl.only.size⟩
theorem Half.drew {w wr : World} {s : ByteArray} {p q : Nat} {bad b' : Bool} (h : Half w wr s p bad q b') : Half w wr.drew s p bad q b' := ⟨h.one, h.two, h.below.drew, h.size⟩
theorem Half.both {w X Y : World} {s : ByteArray} {p q : Nat} {bad b' : Bool} (h : Half w X s p bad q b') (hl : Left X (w.heap.size + 1) 33 s q b' Y) : Both w Y s q b' :=
  ⟨h.one.other hl.only (Nat.succ_ne_self _).symm, hl.rd, hl.only.below h.below (Nat.le_succ _), Nat.le_trans h.size hl.only.size⟩

/-- The step's own cell stays. -/
theorem Left.cell {X Y : World} {g : Nat} {T : TypeId} {s : ByteArray} {p : Nat} {bad : Bool} (h : Left X g T s p bad Y) {b o : Nat} {v : Value} (hc : X.cell? ⟨b, o, none⟩ = some v) (hn : b ≠ g) : Y.cell? ⟨b, o, none⟩ = some v :=
  (only_cell h.only b o (block_lt_of_cell hc) hn).trans hc

set_option maxRecDepth 100000 in
set_option maxHeartbeats 1000000 in
theorem reads (s : ByteArray) (A : Option Addr) (b off len cap : Nat) (K N : Nat → Int) (w : World) (hs : s.size ≤ maxLen) (hl : len ≤ cap) (hcap : cap ≤ maxLen) (hb : 0 < len → A = some ⟨b, off, none⟩ ∧ b < w.heap.size) (hc : StepsAt w b off len K N) :
    Calls Try.prog 4 #[.string s, .slice A len cap] w fun e w' => e = .returned (.bool true) ∧ Below w.heap.size w w' := by
  have HC := hid hc
  have HB0 := hid hb
  clear hc hb
  unfold maxLen at hs hcap
  go_enter Try.func4, Try.ntmps4
  go_upto_region 1 with fail
  go_cut [1] (fun s1 wx => ∃ n : Nat, n ≤ len ∧ s1 = .slice A n cap ∧ wx = w)
  case first =>
    go_wp2
    all_goals go_meet
    · exact ⟨40, by omega, rfl, rfl⟩
    · exact ⟨len, by omega, rfl, rfl⟩
  case rest =>
    obtain ⟨n, hn, rfl, rfl⟩ := hcut
    go_wp2_with fail
    refine (read s _).mono ?_
    rintro e w1 ⟨rfl, rfl⟩
    go_wp2_with fail
    have HI := hid (both_start wc s)
    generalize (wc.alloc (.cells #[.string s, .int .i64 0, .bool false] 108)).alloc (.cells #[.string s, .int .i64 0, .bool false] 33) = W0 at HI ⊢
    go_loopw [22] (fun i wr => ∃ (k p : Nat) (bad : Bool), k ≤ n ∧ i = .int .i64 k ∧ p ≤ s.size ∧ Both wc wr s p bad) (fun i _ => n - (intOf i).toNat)
    case atStart => exact ⟨0, 0, false, by omega, rfl, by omega, HI.out⟩
    case round =>
      obtain ⟨k, p, bad, hk, rfl, hp, hboth⟩ := hrel
      have HW := hid hboth; clear hboth HI
      by_cases hlt : k < n
      · obtain ⟨rfl, hbw⟩ := HB0.out (by omega)
        obtain ⟨c0, c1, k0, k1, n0, n1⟩ := HC.out k (by omega)
        have d0 : wr.cell? ⟨b, off + k * 2, none⟩ = some (.int .u64 (K k)) := (HW.out.below.cell (p := ⟨b, off + k * 2, none⟩) hbw).trans c0
        have d1 : wr.cell? ⟨b, off + k * 2 + 1, none⟩ = some (.int .i64 (N k)) := (HW.out.below.cell (p := ⟨b, off + k * 2 + 1, none⟩) hbw).trans c1
        clear c0 c1
        generalize K k = κ at d0 k0 k1
        generalize N k = ν at d1 n0 n1
        go_upto_block 2 with fail
        have HN := hid (cell_new1 wr (.int .u64 κ) (.int .i64 ν) 36)
        have HX := hid (HW.out.alloc (.cells #[.int .u64 κ, .int .i64 ν] 36))
        have HG := hid (show wc.heap.size + 2 ≤ wr.heap.size ∧ wr.heap.size < (wr.alloc (.cells #[.int .u64 κ, .int .i64 ν] 36)).heap.size from ⟨HW.out.size, by simp⟩)
        generalize wr.alloc (.cells #[.int .u64 κ, .int .i64 ν] 36) = X at HN HX HG ⊢
        generalize wr.heap.size = G at HN HG ⊢
        clear HW d0 d1
        go_cut [28, 37] (fun _ _ wx => ∃ (q : Nat) (b' : Bool), q ≤ s.size ∧ Both wc wx s q b')
        case first =>
          by_cases z0 : κ % 3 = 0
          · obtain ⟨v, q, b', hq, t1, t2⟩ := nums s p bad ν hp (by omega) n0 n1
            have T1 := hid t1
            have T2 := hid t2
            clear t1 t2
            have hn := HN.out
            go_wp2_with fail
            have HG1 := hid (show G ≠ wc.heap.size by have := HG.out.1; omega)
            have HG2 := hid (show G ≠ wc.heap.size + 1 by have := HG.out.1; omega)
            go_region_held3 (fun w' => w'.cell? ⟨G, 1, none⟩ = some (.int .i64 ν)) (first | exact hn | exact H5.out | exact H6.out | go_keep)
              (first
                | (go_at_call 18; refine (T1.out _ _ (by exact HX.out.one)).mono ?_; rintro e w5 ⟨rfl, hl5⟩; have H5 := hid (hl5.cell (by exact HN.out) HG1.out); have HL := hid (by first | exact HX.out.half hl5 | exact HX.out.drew.half hl5); clear hl5)
                | (go_at_call 19; refine (T2.out _ _ (by exact HL.out.two)).mono ?_; rintro e w6 ⟨rfl, hl6⟩; have H6 := hid (hl6.cell (by exact H5.out) HG2.out); have HM := hid (by first | exact HL.out.both hl6 | exact HL.out.drew.both hl6); clear hl6))
            go_wp2_with fail
            go_meet
            exact ⟨q, b', hq, HM.out⟩
          · obtain ⟨v, q, b', hq, t1, t2⟩ := texts s p bad ν hp (by omega)
            have T1 := hid t1
            have T2 := hid t2
            clear t1 t2
            have hn := HN.out
            have HG1 := hid (show G ≠ wc.heap.size by have := HG.out.1; omega)
            have HG2 := hid (show G ≠ wc.heap.size + 1 by have := HG.out.1; omega)
            by_cases z1 : κ % 3 = 1
            · clear z0
              go_wp2_with fail
              go_region_held3 (fun w' => w'.cell? ⟨G, 1, none⟩ = some (.int .i64 ν)) (first | exact hn | exact H5.out | exact H6.out | go_keep)
                (first
                  | (go_at_call 20; refine (T1.out _ _ (by exact HX.out.one)).mono ?_; rintro e w5 ⟨rfl, hl5⟩; have H5 := hid (hl5.cell (by exact HN.out) HG1.out); have HL := hid (by first | exact HX.out.half hl5 | exact HX.out.drew.half hl5); clear hl5)
                  | (go_at_call 21; refine (T2.out _ _ (by exact HL.out.two)).mono ?_; rintro e w6 ⟨rfl, hl6⟩; have H6 := hid (hl6.cell (by exact H5.out) HG2.out); have HM := hid (by first | exact HL.out.both hl6 | exact HL.out.drew.both hl6); clear hl6))
              go_wp2_with fail
              go_meet
              exact ⟨q, b', hq, HM.out⟩
            · go_wp2_with fail
              refine (skip_ _ s p bad ν v q b' _ HX.out.one T1.out).mono ?_
              rintro e w5 ⟨rfl, hl5⟩
              have h5 := hl5.cell HN.out HG1.out
              have HL := hid (HX.out.half hl5)
              clear hl5
              go_wp2_with fail
              refine (T2.out _ _ HL.out.two).mono ?_
              rintro e w6 ⟨rfl, hl6⟩
              have HM := hid (HL.out.both hl6)
              clear hl6
              go_wp2_with fail
              go_meet
              exact ⟨q, b', hq, HM.out⟩
        case rest =>
          obtain ⟨q, b', hq, hm⟩ := hcut
          have HM := hid hm; clear hm
          clear HN HX
          have c1 := HM.out.two.c1
          have c2 := HM.out.two.c2
          have hsub : IntKind.i64.wrap ((s.size : Int) - (q : Int)) = (s.size : Int) - q := IntWalk.i64_in _ (by omega)
          cases b'
          all_goals
            go_wp2_with fail
            go_quiet ((first
              | (go_at_call 23; exact Calls.quiet_of_same ((at_ _ s q _ _ (by exact HM.out.one)).mono fun e w' h => ⟨h.1, h.2.symm⟩))
              | (go_at_call 24; exact Calls.quiet_of ((left _ s q _ _ (by exact HM.out.one) hq (by omega)).mono fun e w' ⟨n, h1, h2⟩ => ⟨h1, n, h2⟩))
              | (go_at_call 25; exact Calls.quiet_of_same ((fine _ s q _ _ (by exact HM.out.one)).mono fun e w' h => ⟨h.1, h.2.symm⟩))))
            clear hsub
            go_wp2_with fail
            go_roundw
            case rel => exact ⟨k + 1, q, _, by omega, by go_num, hq, HM.out.drewN _⟩
            case measure => simp [intOf]; omega
      · go_wp2_with fail
        refine (skip_nil 1 _).mono ?_
        rintro e w' ⟨rfl, rfl⟩
        go_wp2_with fail
        refine (num_nil 1 _).mono ?_
        rintro e w' ⟨rfl, rfl⟩
        go_wp2_with fail
        refine (text_nil 1 _).mono ?_
        rintro e w' ⟨rfl, rfl⟩
        go_wp2_with fail
        refine (left_nil _).mono ?_
        rintro e w' ⟨rfl, rfl⟩
        go_wp2_with fail
        refine (at_nil _).mono ?_
        rintro e w' ⟨rfl, rfl⟩
        go_wp2_with fail
        refine (fine_nil _).mono ?_
        rintro e w' ⟨rfl, rfl⟩
        go_wp2_with fail
        refine (lives _).mono ?_
        rintro e w7 ⟨rfl, h7⟩
        have H7 := hid h7; clear h7
        go_wp2_with fail
        go_ret
        exact ⟨rfl, HW.out.below.trans (H7.out.mono HW.out.below.size)⟩
end Fld
end Go.Proofs.Ythblaceldoikeaa
