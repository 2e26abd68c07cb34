/- SumBytes: the walk. -/
import Derived.Test.YthblaceldoikeaaSumO
import Derived.Deep.QuietTactic
import Derived.BigQuiet
import Derived.Deep.RegionHeld3
import Derived.Deep.DrawnRows
import Derived.Deep.DeepCutAuto
namespace Go.Proofs.Ythblaceldoikeaa
set_option linter.unusedVariables false
open Go.RowKit
open Go.Proofs.Crc
attribute [local go_sem ↓] Go.wp_at_zero Go.wp_at_succ

theorem cut_size (s : ByteArray) (n : Nat) (h : s.size ≤ maxLen) : (s.extract 0 n).size ≤ maxLen := by
  rw [ByteArray.size_extract]; omega

theorem below_box (w : World) (o : Obj) (n : Nat) : Below w.heap.size w ((w.alloc o).drewN n) := below_drewN ((Below.refl _ _).alloc (Nat.le_refl _) _) n

theorem tabled2 (w : World) (o : Obj) (n : Nat) (w1 : World) (hB : Below ((w.alloc o).drewN n).heap.size ((w.alloc o).drewN n) w1) :
    Tabled w ((w1.alloc (.cells Try.zeroCells56 56)).setRow w1.heap.size tabV) w1.heap.size :=
  tabled w w1 ((below_box w o n).trans (hB.mono (below_box w o n).size))

theorem tab_byte (b : Int) (W : World) (g : Nat) (h : IsTab W g 256) (hb0 : 0 ≤ b) (hb : b < 256) : W.cell? ⟨g, b.toNat, none⟩ = some (.int .u32 (byteI 0 b)) := by
  have := h.cell (j := b.toNat) (by omega)
  rw [this]
  unfold tabI
  have e : ((b.toNat : Nat) : Int) = b := by omega
  rw [e]

theorem Tabled.more {w W : World} {g : Nat} (h : Tabled w W g) {W' : World} (hb : Below W.heap.size W W') : IsTab W' g 256 ∧ Below w.heap.size w W' ∧ W.heap.size ≤ W'.heap.size :=
  ⟨h.tab.below hb h.tab.lt, h.below.trans (hb.mono h.below.size), hb.size⟩

theorem add_bytes (A B : ByteArray) : (A ++ B).data.toList = A.data.toList ++ B.data.toList := by simp

theorem feed_two (st : Int) (A B : ByteArray) (h0 : 0 ≤ st) (h1 : st < 4294967296) : feedAll byteI st [A, B] = feedI st (A ++ B).data.toList := by
  obtain ⟨a, b⟩ := feedI_bd st A.data.toList h0 h1
  have e : feedAll byteI st [A, B] = feedP byteI (feedP byteI st A.data.toList) B.data.toList := rfl
  rw [e, feedP_byte st _ h0 h1, feedP_byte _ _ a b, add_bytes]
  unfold feedI
  rw [feed_append, Int.toNat_natCast]

theorem IsTab.drewN {w : World} {g k : Nat} (h : IsTab w g k) (n : Nat) : IsTab (w.drewN n) g k := h
theorem IsTab.drew {w : World} {g k : Nat} (h : IsTab w g k) : IsTab w.drew g k := h
theorem TextsAt.drew {w : World} {L : Nat} {ss : List ByteArray} (h : TextsAt w L ss) : TextsAt w.drew L ss := h

theorem feed_tab2 (g L cap : Nat) (st : Int) (A B : ByteArray) (w : World) (h0 : 0 ≤ st) (h1 : st < 4294967296) (hT : IsTab w g 256) (ht : TextsAt w L [A, B]) :
    Calls Try.prog 33 #[.pointer (some ⟨g, 0, none⟩), .int .u32 st, .slice (some ⟨L, 0, none⟩) 2 cap] w fun e w' => e = .returned (.int .u32 (feedI st (A ++ B).data.toList)) ∧ w = w' := by
  refine (feed (.pointer (some ⟨g, 0, none⟩)) byteI keeps_byte st L cap [A, B] w h0 h1 (by simp [maxLen]) ht (step_is g w hT)).mono ?_
  rintro e w' ⟨rfl, rfl⟩
  exact ⟨ret_u32 (feed_two st A B h0 h1), rfl⟩

theorem feed_none1 (L cap : Nat) (st : Int) (A : ByteArray) (w : World) (h0 : 0 ≤ st) (h1 : st < 4294967296) (ht : TextsAt w L [A]) :
    Calls Try.prog 33 #[.pointer none, .int .u32 st, .slice (some ⟨L, 0, none⟩) 1 cap] w fun e w' => e = .returned (.int .u32 st) ∧ w = w' := by
  refine (feed (.pointer none) (fun s _ => s) keeps_nil st L cap [A] w h0 h1 (by simp [maxLen]) ht (step_is_nil w)).mono ?_
  rintro e w' ⟨rfl, rfl⟩
  exact ⟨ret_u32 (feedAll_nil st [A]), rfl⟩

/-- What is known of a world in which the table stands. -/
structure Known (w X : World) (g : Nat) : Prop where
  tab : IsTab X g 256
  below : Below w.heap.size w X

theorem Known.drew {w X : World} {g : Nat} (h : Known w X g) : Known w X.drew g := ⟨h.tab, h.below.drew⟩
theorem Known.alloc {w X : World} {g : Nat} (h : Known w X g) (o : Obj) : Known w (X.alloc o) g := ⟨h.tab.alloc o, h.below.alloc h.below.size o⟩
theorem Known.after {w X Y : World} {g : Nat} (h : Known w X g) (hb : Below X.heap.size X Y) : Known w Y g := ⟨h.tab.below hb h.tab.lt, h.below.trans (hb.mono h.below.size)⟩
theorem Known.behind {w X Y : World} {g : Nat} (hb : Below X.heap.size X Y) (h : Known w X g) : Known w Y g := h.after hb
theorem Known.place {w X : World} {g : Nat} (h : Known w X g) {b : Int} (hb0 : 0 ≤ b) (hb : b < 256) : X.cell? ⟨g, b.toNat, none⟩ = some (.int .u32 (byteI 0 b)) := tab_byte b X g h.tab hb0 hb

theorem texts_two' (W : World) (L : Nat) (s u : ByteArray) (hL : L = W.heap.size) (hs : s.size ≤ maxLen) (hu : u.size ≤ maxLen) : TextsAt (W.alloc (.cells #[.string s, .string u] 9)) L [s, u] := by
  subst hL; exact texts_two W s u hs hu
theorem texts_one' (W : World) (L : Nat) (s : ByteArray) (hL : L = W.heap.size) (hs : s.size ≤ maxLen) : TextsAt (W.alloc (.cells #[.string s] 9)) L [s] := by
  subst hL; exact texts_one W s hs

theorem end_w (s : Int) (w : World) (h0 : 0 ≤ s) (h1 : s < 4294967296) : Calls Try.prog 38 #[.int .u32 s] w fun e w' => e = .returned (.int .u32 (IntKind.u32.wrap (4294967295 - s))) ∧ w = w' := by
  refine (end_ s w h0 h1).mono ?_
  rintro e w' ⟨rfl, rfl⟩
  exact ⟨ret_u32 (by rw [IntKind.wrap_u32]; omega), rfl⟩

set_option maxRecDepth 100000 in
set_option maxHeartbeats 4000000 in
theorem sumBytes (st b : Int) (s u : ByteArray) (w : World) (h0 : 0 ≤ st) (h1 : st < 4294967296) (hb0 : 0 ≤ b) (hb : b < 256) (hs : s.size ≤ maxLen) (hu : u.size ≤ maxLen) :
    Calls Try.prog 6 #[.int .u32 st, .int .u8 b, .agg #[.string s, .string u]] w fun e w' => e = .returned (.bool true) ∧ Below w.heap.size w w' := by
  have hz := hid zero56_size
  have HS := hid hs
  have HU := hid hu
  unfold maxLen at hs hu
  go_enter Try.func6, Try.ntmps6
  go_upto_region 1 with fail
  go_cut [7, 8] (fun s7 s8 wx => ∃ A B : ByteArray, s7 = .string A ∧ s8 = .string B ∧ A.size ≤ 2000 ∧ B.size ≤ 2000 ∧ Below w.heap.size w wx)
  case first =>
    go_quiet (fail)
    go_wp2_with fail
    all_goals go_meet
    all_goals exact ⟨_, _, rfl, rfl, by first | (rw [ByteArray.size_extract]; omega) | omega, by first | (rw [ByteArray.size_extract]; omega) | omega, below_box _ _ _⟩
  case rest =>
    obtain ⟨A, B, rfl, rfl, hA2, hB2, hbel⟩ := hcut
    have HL := hid hbel; clear hbel
    have HA : Hid (A.size ≤ maxLen) := by unfold Hid maxLen; omega
    have HB : Hid (B.size ≤ maxLen) := by unfold Hid maxLen; omega
    have HAB : Hid ((A ++ B).size ≤ maxLen) := by unfold Hid maxLen; rw [ByteArray.size_append]; omega
    have hcat : ∀ w', (Op.stringOp .add A B).run Try.prog w' = .ok (.string (A ++ B)) w' := fun w' => run_string_add_sum w' A B (by omega)
    have HC := hid hcat
    clear hs hu hA2 hB2 hcat
    go_wp2_with fail
    refine (made _).mono ?_
    rintro e w1 ⟨rfl, hB1⟩
    have HT := hid (tabled w w1 (HL.out.trans (hB1.mono HL.out.size))); clear hB1
    go_wp2_with (refine wpList_store_row rfl 56 _ _ rfl w1.heap.size tabV rfl rfl 56 Try.zeroCells56 (heap_alloc_new _ _) (by rw [tabV_size]; exact size56) (by rw [tabV_size]; exact hz.out) tabV_one ?_)
    generalize (w1.alloc (.cells Try.zeroCells56 56)).setRow w1.heap.size tabV = W at HT ⊢
    generalize w1.heap.size = g at HT ⊢
    have HK : Hid (Known w W g) := ⟨HT.out.tab, HT.out.below⟩
    have hc := HK.out.place hb0 hb
    have hcat := HC.out
    clear HT
    dsimp only [List.append]
    go_region_held3 (fun w' => w'.cell? ⟨g, b.toNat, none⟩ = some (.int .u32 (byteI 0 b))) (first | exact hc | go_keep | exact K9.out.place hb0 hb | exact K8.out.place hb0 hb)
      (first
        | (go_at_call 31; refine (refByteI _ _ _ (by omega) (by omega) (by omega) (by omega)).mono ?_; rintro e w' ⟨rfl, rfl⟩)
        | (go_at_call_of 32 (Value.pointer none); refine (step_nil _ _ _).mono ?_; rintro e w' ⟨rfl, rfl⟩)
        | (go_at_call_of 33 (Value.pointer none); refine (feed_none1 _ _ _ A _ (by omega) (by omega) (by exact texts_one' _ _ A (by simp) HA.out)).mono ?_; rintro e w' ⟨rfl, rfl⟩)
        | (go_at_call 32; refine (step g _ _ _ (by omega) (by omega) (by omega) (by omega) (by exact HK.out.tab)).mono ?_; rintro e w' ⟨rfl, rfl⟩)
        | (go_at_call 33; refine (feed_tab2 g _ _ _ A B _ (by omega) (by omega) (by repeat (first | exact HK.out.tab | apply IsTab.alloc)) (by exact texts_two' _ _ A B (by simp) HA.out HB.out)).mono ?_; rintro e w' ⟨rfl, rfl⟩)
        | (go_at_call 34; refine (refFeed _ _ _ (by omega) (by omega) HAB.out).mono ?_; rintro e w' ⟨rfl, rfl⟩)
        | (go_at_call 35; refine (of_ A _ HA.out).mono ?_; rintro e w9 ⟨rfl, hB9⟩; have K9 := hid (Known.behind (w := w) (g := g) hB9 (by repeat (first | exact HK.out | apply Known.drew | apply Known.alloc))); clear hB9)
        | (go_at_call 36; refine (refOf A _ HA.out).mono ?_; rintro e w' ⟨rfl, rfl⟩)
        | (go_at_call 37; refine (begin_ _).mono ?_; rintro e w' ⟨rfl, rfl⟩)
        | (go_at_call 38; refine (end_w _ _ (by omega) (by omega)).mono ?_; rintro e w' ⟨rfl, rfl⟩)
        | (go_at_call 39; refine (lives _).mono ?_; rintro e w8 ⟨rfl, hB8⟩; have K8 := hid (Known.behind (w := w) (g := g) hB8 (by repeat (first | exact K9.out | apply Known.drew | apply Known.alloc))); clear hB8))
    go_wp2_with fail
    go_ret
    exact ⟨rfl, K8.out.below⟩
end Go.Proofs.Ythblaceldoikeaa
