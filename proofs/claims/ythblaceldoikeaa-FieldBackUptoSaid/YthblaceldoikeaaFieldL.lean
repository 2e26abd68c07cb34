/- FieldBack: the walk. -/
import Derived.Test.YthblaceldoikeaaFieldK
import Derived.Deep.DeepCutAuto
import Derived.Deep.CutBlock
namespace Go.Proofs.Ythblaceldoikeaa
set_option linter.unusedVariables false
open Go.RowKit
open Go.Proofs.Num
namespace Fld
attribute [local go_sem ↓] Go.wp_at_zero Go.wp_at_succ

/-- A row of cells that came in: its first n cells, at their own block. -/
def Row (w : World) (B : Nat) (A : Option Addr) (n : Nat) (V : Nat → Value) : Prop := 0 < n → ∃ b o, A = some ⟨b, o, none⟩ ∧ b < B ∧ ∀ i, i < n → w.cell? ⟨b, o + i, none⟩ = some (V i)

/-- A writer that stands over what was there. -/
structure Wd (w X : World) (l : List UInt8) : Prop where
  wr : Wr X w.heap.size l
  below : Below w.heap.size w X
theorem Wd.drew {w X : World} {l : List UInt8} (h : Wd w X l) : Wd w X.drew l := ⟨h.wr.drew, h.below.drew⟩
theorem Wd.alloc {w X : World} {l : List UInt8} (h : Wd w X l) (o : Obj) : Wd w (X.alloc o) l := ⟨h.wr.alloc o, h.below.alloc h.below.size o⟩
theorem Wd.next {w X Y : World} {l m : List UInt8} (h : Wd w X l) (hw : Wr Y w.heap.size m) (hb : Below w.heap.size X Y) : Wd w Y m := ⟨hw, h.below.trans hb⟩

/-- A reader that stands over what was there. -/
structure Sr (w X : World) (H : Nat) (B : ByteArray) (p : Nat) : Prop where
  rd : Rd X H 108 B p false
  below : Below w.heap.size w X
  low : w.heap.size ≤ H
theorem Sr.drew {w X : World} {H : Nat} {B : ByteArray} {p : Nat} (h : Sr w X H B p) : Sr w X.drew H B p := ⟨h.rd, h.below.drew, h.low⟩
theorem Sr.next {w X Y : World} {H : Nat} {B : ByteArray} {p q : Nat} (h : Sr w X H B p) (hl : Left X H 108 B q false Y) : Sr w Y H B q := ⟨hl.rd, hl.only.below h.below h.low, h.low⟩

theorem rd_num {H : Nat} {B : ByteArray} {p N v : Nat} {X : World} (h : Rd X H 108 B p false) (hN : N ≤ 8) (hp : p + N ≤ B.size) (hs : B.size ≤ 9223372036854775807) (hv : getI (B.extract p B.size) N = (v : Int)) :
    Calls Try.prog 18 #[.pointer (some ⟨H, 0, none⟩), .int .i64 (N : Int)] X fun e w' => e = .returned (.int .u64 (v : Int)) ∧ Left X H 108 B (p + N) false w' := by
  have hsz : (B.extract p B.size).size = B.size - p := by rw [ByteArray.size_extract]; omega
  refine num_yes H B p N v X h hp hs fun w => ?_
  rw [← hv]
  exact get_yes _ N w (by omega) hN (by omega)

theorem rd_text {H : Nat} {B t : ByteArray} {p : Nat} {X : World} (h : Rd X H 108 B p false) (hp : p + t.size ≤ B.size) (hs : B.size ≤ 9223372036854775807) (hv : B.extract p (p + t.size) = t) :
    Calls Try.prog 20 #[.pointer (some ⟨H, 0, none⟩), .int .i64 (t.size : Int)] X fun e w' => e = .returned (.string t) ∧ Left X H 108 B (p + t.size) false w' := by
  refine (text_yes H B p t.size X h hp hs).mono ?_
  rintro e w' ⟨rfl, hl⟩
  exact ⟨by rw [hv], hl⟩

theorem shl_num (N : Nat) (h : N < 8) : IntKind.u64.wrap (2 ^ (8 * N)) = ((256 ^ N : Nat) : Int) := by
  have h1 : 256 ^ N ≤ 256 ^ 7 := Nat.pow_le_pow_right (by decide) (by omega)
  have h7 : (256 : Nat) ^ 7 = 72057594037927936 := by decide
  have e : ((2 : Int) ^ (8 * N)) = ((256 ^ N : Nat) : Int) := by rw [← pow256]; simp
  rw [e, IntKind.wrap_u64]
  generalize 256 ^ N = M at h1 ⊢
  omega

theorem min_int4 (ts : Array TypeId) (t : TypeId) (x y z u : Int) (w : World) : ∃ m : Int, (Builtin.min_ ts t #[.int .i64 x, .int .i64 y, .int .i64 z, .int .i64 u]).run Try.prog w = .ok (.int .i64 m) w ∧ m ≤ x ∧ m ≤ y ∧ m ≤ z ∧ m ≤ u ∧ (m = x ∨ m = y ∨ m = z ∨ m = u) := by
  refine ⟨if u < (if z < (if y < x then y else x) then z else (if y < x then y else x)) then u else (if z < (if y < x then y else x) then z else (if y < x then y else x)), by simp [Builtin.min_, Builtin.min2], ?_⟩
  omega

theorem min_len (n1 n2 n3 : Nat) (w : World) : ∃ n : Nat, (Builtin.min_ #[3, 3, 3, 3] 3 #[.int .i64 (n1 : Int), .int .i64 (n2 : Int), .int .i64 (n3 : Int), .int .i64 30]).run Try.prog w = .ok (.int .i64 (n : Int)) w ∧ n ≤ n1 ∧ n ≤ n2 ∧ n ≤ n3 ∧ n ≤ 30 := by
  obtain ⟨m, h, a1, a2, a3, a4, a5⟩ := min_int4 #[3, 3, 3, 3] 3 (n1 : Int) (n2 : Int) (n3 : Int) 30 w
  obtain ⟨n, rfl⟩ := Int.eq_ofNat_of_zero_le (show 0 ≤ m by omega)
  exact ⟨n, h, by omega, by omega, by omega, by omega⟩

set_option maxRecDepth 100000 in
set_option maxHeartbeats 1000000 in
theorem backs (A1 A2 A3 : Option Addr) (n1 c1 n2 c2 n3 c3 : Nat) (X : Nat → Nat) (D : Nat → Int) (T : Nat → ByteArray) (w : World)
    (h1 : Row w w.heap.size A1 n1 fun i => .int .u64 (X i : Int)) (h2 : Row w w.heap.size A2 n2 fun i => .int .i64 (D i)) (h3 : Row w w.heap.size A3 n3 fun i => .string (T i))
    (m1 : n1 ≤ maxLen) (m2 : n2 ≤ maxLen) (m3 : n3 ≤ maxLen)
    (hX : ∀ i, i < n1 → X i ≤ 18446744073709551615) (hD : ∀ i, i < n2 → -9223372036854775808 ≤ D i ∧ D i ≤ 9223372036854775807) (hT : ∀ i, i < n3 → (T i).size ≤ 1048576) :
    Calls Try.prog 5 #[.slice A1 n1 c1, .slice A2 n2 c2, .slice A3 n3 c3] w fun e w' => e = .returned (.bool true) ∧ Below w.heap.size w w' := by
  have H1 := hid h1
  have H2 := hid h2
  have H3 := hid h3
  have HX := hid hX
  have HD := hid hD
  have HT := hid hT
  clear h1 h2 h3 hX hD hT
  unfold maxLen at m1 m2 m3
  obtain ⟨n, hmin, e1, e2, e3, e4⟩ := min_len n1 n2 n3 (w.alloc (.cells #[.slice none 0 0] 47))
  go_enter Try.func5, Try.ntmps5
  go_wp2_with fail
  have HI := hid (show Wr (w.alloc (.cells #[.slice none 0 0] 47)) w.heap.size [] from ⟨_, heap_alloc_new _ _, World.ownsRow_nil _ _ _ _⟩)
  have HB := hid ((Below.refl w.heap.size w).alloc (Nat.le_refl _) (.cells #[.slice none 0 0] 47))
  clear hmin
  generalize w.alloc (.cells #[.slice none 0 0] 47) = W1 at HI HB ⊢
  go_loopw [9, 10, 11, 25] (fun sz _ _ i wr => ∃ k : Nat, k ≤ n ∧ i = .int .i64 k ∧ sz = .int .i64 ((wrote X D T k).length : Int) ∧ Wr wr w.heap.size (wrote X D T k) ∧ Below w.heap.size w wr) (fun _ _ _ i _ => n - (intOf i).toNat)
  case atStart => exact ⟨0, by omega, rfl, val_int rfl, HI.out, HB.out⟩
  case round =>
    obtain ⟨k, hk, rfl, rfl, hw, hb⟩ := hrel
    have HW := hid hw
    have HB2 := hid hb
    clear hw hb HI HB
    by_cases hlt : k < n
    · obtain ⟨b1, o1, q1, lt1, cc1⟩ := H1.out (by omega)
      obtain ⟨b2, o2, q2, lt2, cc2⟩ := H2.out (by omega)
      obtain ⟨b3, o3, q3, lt3, cc3⟩ := H3.out (by omega)
      have C1 := hid (show ∀ wx : World, Below w.heap.size w wx → wx.cell? ⟨b1, o1 + k, none⟩ = some (.int .u64 (X k : Int)) from fun wx h => (h.cell (p := ⟨b1, o1 + k, none⟩) lt1).trans (cc1 k (by omega)))
      have C2 := hid (show ∀ wx : World, Below w.heap.size w wx → wx.cell? ⟨b2, o2 + k, none⟩ = some (.int .i64 (D k)) from fun wx h => (h.cell (p := ⟨b2, o2 + k, none⟩) lt2).trans (cc2 k (by omega)))
      have C3 := hid (show ∀ wx : World, Below w.heap.size w wx → wx.cell? ⟨b3, o3 + k, none⟩ = some (.string (T k)) from fun wx h => (h.cell (p := ⟨b3, o3 + k, none⟩) lt3).trans (cc3 k (by omega)))
      have d2 := C2.out wr HB2.out
      obtain ⟨dl, dh⟩ := HD.out k (by omega)
      have HM := hid (show ((wideN (D k) : Nat) : Int) = min (max (D k) 0) 8 by unfold wideN; omega)
      have k1 : k < n1 := by omega
      have k2 : k < n2 := by omega
      have k3 : k < n3 := by omega
      subst q1 q2 q3
      clear cc1 cc2 cc3
      go_upto_region 8 with fail
      have hs11 : (if (0 : Int) < (if (8 : Int) < D k then 8 else D k) then (if (8 : Int) < D k then 8 else D k) else 0) = ((wideN (D k) : Nat) : Int) := by rw [HM.out]; omega
      rw [hs11]
      clear hs11
      generalize (if (8 : Int) < D k then 8 else D k) = z
      have HP := hid (wrote_succ X D T k)
      have HPL := hid (wrote_length_succ X D T k)
      have HQ := hid (show (wrote X D T k).length ≤ 70000000 by
        have h := wrote_le X D T 1048576 k (fun i hi => HT.out i (by omega))
        have h2 : k * (8 + 2 * 1048576) ≤ 30 * (8 + 2 * 1048576) := Nat.mul_le_mul_right _ (by omega)
        omega)
      have ht := HT.out k (by omega)
      have hx := HX.out k (by omega)
      have HPC := hid (show piece X D T k = (putL (X k) (wideN (D k)) ++ (T k).data.toList) ++ (T k).data.toList from rfl)
      have hw8 := wide_le (D k)
      generalize X k = x at HPC C1 hx
      generalize T k = t at HPC HPL C3 ht
      have HWD : Hid (Wd w wr (wrote X D T k)) := ⟨HW.out, HB2.out⟩
      have d1 := C1.out wr HB2.out
      have d3 := C3.out wr HB2.out
      have y1 := World.new_ne wr _ d1
      have y2 := World.new_ne wr _ d2
      have y3 := World.new_ne wr _ d3
      generalize wrote X D T k = l at HP HPL HQ HWD HW ⊢
      go_region_held3 (fun w' => w'.cell? ⟨b1, o1 + k, none⟩ = some (.int .u64 (x : Int)) ∧ w'.cell? ⟨b2, o2 + k, none⟩ = some (.int .i64 (D k)) ∧ w'.cell? ⟨b3, o3 + k, none⟩ = some (.string t))
        (first | exact ⟨d1, d2, d3⟩ | exact ⟨C1.out _ H6.out.below, C2.out _ H6.out.below, C3.out _ H6.out.below⟩ | exact ⟨C1.out _ H5.out.below, C2.out _ H5.out.below, C3.out _ H5.out.below⟩ | go_keep)
        (first
          | (go_at_call 26; refine (wnum w.heap.size l x (D k) _ (by first | exact HWD.out.wr | exact HWD.out.drew.wr | exact (HWD.out.drew.alloc _).wr | exact (HWD.out.alloc _).wr) (by omega) (by omega) (by omega) (by have := HQ.out; omega)).mono ?_; rintro e w5 ⟨rfl, hw5, hb5, hk5⟩; have H5 := hid (show Wd w w5 (l ++ putL x (wideN (D k))) by first | exact HWD.out.next hw5 hb5 | exact HWD.out.drew.next hw5 hb5 | exact (HWD.out.drew.alloc _).next hw5 hb5 | exact (HWD.out.alloc _).next hw5 hb5); have HK5 := hid hk5; clear hw5 hb5 hk5)
          | (go_at_call 27; refine (wtext w.heap.size _ _ (l ++ putL x (wideN (D k))) [t, t] _ (by first | exact H5.out.wr | exact H5.out.drew.wr | exact (H5.out.drew.alloc _).wr | exact (H5.out.alloc _).wr) (by first | exact lie_new _ [t, t] | exact HK5.out _ _ (lie_new _ [t, t])) (by have := HQ.out; simp [putL_length]; omega) (by simp)).mono ?_; rintro e w6 ⟨rfl, hw6, hb6, hk6⟩; have H6 := hid (show Wd w w6 _ by first | exact H5.out.next hw6 hb6 | exact H5.out.drew.next hw6 hb6 | exact (H5.out.drew.alloc _).next hw6 hb6 | exact (H5.out.alloc _).next hw6 hb6); clear hw6 hb6 hk6))
      all_goals
        have d4 := C3.out _ H6.out.below
        have hq := HQ.out
        have HWR := hid (show Wr w6 w.heap.size (wrote X D T (k + 1)) by have := H6.out.wr; rw [HP.out, HPC.out]; simpa [List.append_assoc] using this)
        go_wp2_with fail
        go_roundw
        case rel => exact ⟨k + 1, by omega, by go_num, val_int (by have := HPL.out; omega), HWR.out, H6.out.below⟩
        case measure => simp [intOf]; omega
    · obtain rfl : k = n := by omega
      have HQ := hid (show (wrote X D T k).length ≤ 70000000 by
        have h := wrote_le X D T 1048576 k (fun i hi => HT.out i (by omega))
        have h2 : k * (8 + 2 * 1048576) ≤ 30 * (8 + 2 * 1048576) := Nat.mul_le_mul_right _ (by omega)
        omega)
      go_wp2_with fail
      refine (wlen _ _ _ HW.out).mono ?_
      rintro e w' ⟨rfl, rfl⟩
      go_wp2_with fail
      refine (wbytes _ _ _ HW.out).mono ?_
      rintro e w' ⟨rfl, rfl⟩
      have hlen : (⟨(wrote X D T k).toArray⟩ : ByteArray).size = (wrote X D T k).length := whole_size X D T k
      go_wp2_with fail
      clear hlen
      refine (wbytes _ _ _ HW.out).mono ?_
      rintro e w' ⟨rfl, rfl⟩
      have hBdef : (⟨(wrote X D T k).toArray⟩ : ByteArray) = whole X D T k := rfl
      rw [hBdef]
      clear hBdef
      have HBs := hid (whole_size X D T k)
      have HBN := hid (back_num X D T)
      have HBT := hid (back_text X D T)
      have HBL := hid (back_le X D T)
      go_wp2_with fail
      refine (read _ _).mono ?_
      rintro e w7 ⟨rfl, rfl⟩
      have HS := hid (show Sr w (wr.alloc (.cells #[.string (whole X D T k), .int .i64 0, .bool false] 108)) wr.heap.size (whole X D T k) 0 from ⟨heap_alloc_new _ _, HB2.out.alloc HB2.out.size _, HB2.out.size⟩)
      generalize wr.alloc (.cells #[.string (whole X D T k), .int .i64 0, .bool false] 108) = W7 at HS ⊢
      generalize wr.heap.size = H at HS ⊢
      have HN := hid (show ∀ j, j < k → (whole X D T k).extract ((wrote X D T j).length) ((whole X D T k).size) = (whole X D T k).extract ((wrote X D T j).length) ((whole X D T k).size) from fun _ _ => rfl)
      clear HN
      go_wp2_with fail
      go_loopw [13, 14, 15, 77] (fun _ _ _ i wx => ∃ j : Nat, j ≤ k ∧ i = .int .i64 j ∧ Sr w wx H (whole X D T k) (wrote X D T j).length) (fun _ _ _ i _ => k - (intOf i).toNat)
      case atStart => exact ⟨0, by omega, rfl, HS.out⟩
      case round =>
        obtain ⟨j, hj, rfl, hsr⟩ := hrel
        have HR := hid hsr
        clear hsr HS
        by_cases hlt2 : j < k
        · obtain ⟨b1, o1, q1, lt1, cc1⟩ := H1.out (by omega)
          obtain ⟨b2, o2, q2, lt2, cc2⟩ := H2.out (by omega)
          obtain ⟨b3, o3, q3, lt3, cc3⟩ := H3.out (by omega)
          have C1 := hid (show ∀ wx : World, Below w.heap.size w wx → wx.cell? ⟨b1, o1 + j, none⟩ = some (.int .u64 (X j : Int)) from fun wx h => (h.cell (p := ⟨b1, o1 + j, none⟩) lt1).trans (cc1 j (by omega)))
          have C2 := hid (show ∀ wx : World, Below w.heap.size w wx → wx.cell? ⟨b2, o2 + j, none⟩ = some (.int .i64 (D j)) from fun wx h => (h.cell (p := ⟨b2, o2 + j, none⟩) lt2).trans (cc2 j (by omega)))
          have C3 := hid (show ∀ wx : World, Below w.heap.size w wx → wx.cell? ⟨b3, o3 + j, none⟩ = some (.string (T j)) from fun wx h => (h.cell (p := ⟨b3, o3 + j, none⟩) lt3).trans (cc3 j (by omega)))
          have d1 := C1.out _ HR.out.below
          have d2 := C2.out _ HR.out.below
          have d3 := C3.out _ HR.out.below
          have HM := hid (show ((wideN (D j) : Nat) : Int) = min (max (D j) 0) 8 by unfold wideN; omega)
          have k1 : j < n1 := by omega
          have k2 : j < n2 := by omega
          have k3 : j < n3 := by omega
          have V0 := hid (HBN.out j k hlt2)
          have V1 := hid (HBT.out j k hlt2 0 (.inl rfl))
          have V2 := hid (HBT.out j k hlt2 1 (.inr rfl))
          have V3 := hid (HBL.out j k hlt2)
          have HPL := hid (wrote_length_succ X D T j)
          subst q1 q2 q3
          clear cc1 cc2 cc3
          go_upto_region 20 with fail
          have hs11 : (if (0 : Int) < (if (8 : Int) < D j then 8 else D j) then (if (8 : Int) < D j then 8 else D j) else 0) = ((wideN (D j) : Nat) : Int) := by rw [HM.out]; omega
          rw [hs11]
          clear hs11
          generalize (if (8 : Int) < D j then 8 else D j) = z
          have ht := HT.out j (by omega)
          have hx := HX.out j (by omega)
          have hw8 := wide_le (D j)
          have hBm : (whole X D T k).size ≤ 70000000 := by rw [HBs.out]; exact HQ.out
          clear d2 HM
          generalize wideN (D j) = N at V0 V1 V2 V3 HPL hw8 ⊢
          generalize X j = x at V0 C1 d1 hx ⊢
          generalize T j = t at V1 V2 V3 C3 d3 ht HPL
          obtain ⟨p, hpg⟩ : ∃ p, p = (wrote X D T j).length := ⟨_, rfl⟩
          rw [← hpg] at V0 V1 V2 V3 HPL HR
          clear hpg
          have V1' := hid (show (whole X D T k).extract (p + N) (p + N + t.size) = t by have := V1.out; simpa using this)
          have V2' := hid (show (whole X D T k).extract (p + N + t.size) (p + N + t.size + t.size) = t by have := V2.out; rw [Nat.one_mul] at this; exact this)
          clear V1 V2
          have V1 := V1'
          have V2 := V2'
          clear V1' V2'
          by_cases h8 : N < 8
          · have hsh := shl_num N h8
            have hM : 0 < 256 ^ N := Nat.pow_pos (by decide)
            generalize 256 ^ N = M at hsh hM V0
            go_upto_region 22 with fail
            have hmod : ((x : Int) % (M : Int)) = ((x % M : Nat) : Int) := by omega
            rw [hmod]
            clear hmod hsh
            generalize x % M = v at V0 ⊢
            have y3 := World.new_ne _ _ d3
            go_region_held3 (fun w' => w'.cell? ⟨b3, o3 + j, none⟩ = some (.string t))
              (first | exact d3 | exact C3.out _ R7.out.below | exact C3.out _ R6.out.below | exact C3.out _ R5.out.below | go_keep)
              (first
                | (go_at_call 18; refine (rd_num (v := v) (by first | exact HR.out.rd | exact HR.out.drew.rd) hw8 (by have := V3.out; omega) (by omega) V0.out).mono ?_; rintro e w5 ⟨rfl, hl5⟩; have R5 := hid (by first | exact HR.out.next hl5 | exact HR.out.drew.next hl5); clear hl5)
                | (go_at_call 20; refine (rd_text (by first | exact R6.out.rd | exact R6.out.drew.rd) (by have := V3.out; omega) (by omega) V2.out).mono ?_; rintro e w7 ⟨rfl, hl7⟩; have R7 := hid (by first | exact R6.out.next hl7 | exact R6.out.drew.next hl7); clear hl7)
                | (go_at_call 20; refine (rd_text (by first | exact R5.out.rd | exact R5.out.drew.rd) (by have := V3.out; omega) (by omega) V1.out).mono ?_; rintro e w6 ⟨rfl, hl6⟩; have R6 := hid (by first | exact R5.out.next hl6 | exact R5.out.drew.next hl6); clear hl6))
            go_wp2_with fail
            go_roundw
            case rel => exact ⟨j + 1, by omega, by go_num, by have := R7.out; rw [HPL.out, show p + (N + 2 * t.size) = p + N + t.size + t.size by omega]; exact this⟩
            case measure => simp [intOf]; omega
          · obtain rfl : N = 8 := by omega
            have hmod : x % 256 ^ 8 = x := Nat.mod_eq_of_lt (by have : (256 : Nat) ^ 8 = 18446744073709551616 := by decide
                                                                omega)
            rw [hmod] at V0
            clear hmod
            go_upto_region 22 with fail
            generalize x = v at V0 C1 d1 hx ⊢
            have y3 := World.new_ne _ _ d3
            go_region_held3 (fun w' => w'.cell? ⟨b3, o3 + j, none⟩ = some (.string t))
              (first | exact d3 | exact C3.out _ R7.out.below | exact C3.out _ R6.out.below | exact C3.out _ R5.out.below | go_keep)
              (first
                | (go_at_call 18; refine (rd_num (v := v) (by first | exact HR.out.rd | exact HR.out.drew.rd) hw8 (by have := V3.out; omega) (by omega) V0.out).mono ?_; rintro e w5 ⟨rfl, hl5⟩; have R5 := hid (by first | exact HR.out.next hl5 | exact HR.out.drew.next hl5); clear hl5)
                | (go_at_call 20; refine (rd_text (by first | exact R6.out.rd | exact R6.out.drew.rd) (by have := V3.out; omega) (by omega) V2.out).mono ?_; rintro e w7 ⟨rfl, hl7⟩; have R7 := hid (by first | exact R6.out.next hl7 | exact R6.out.drew.next hl7); clear hl7)
                | (go_at_call 20; refine (rd_text (by first | exact R5.out.rd | exact R5.out.drew.rd) (by have := V3.out; omega) (by omega) V1.out).mono ?_; rintro e w6 ⟨rfl, hl6⟩; have R6 := hid (by first | exact R5.out.next hl6 | exact R5.out.drew.next hl6); clear hl6))
            go_wp2_with fail
            go_roundw
            case rel => exact ⟨j + 1, by omega, by go_num, by have := R7.out; rw [HPL.out, show p + (8 + 2 * t.size) = p + 8 + t.size + t.size by omega]; exact this⟩
            case measure => simp [intOf]; omega
        · obtain rfl : j = k := by omega
          have HLF := hid (show ((whole X D T j).size : Int) - ((wrote X D T j).length : Nat) = 0 by rw [HBs.out]; omega)
          have HFL := hid (show (wrote X D T j).length ≤ (whole X D T j).size by rw [HBs.out]; omega)
          have HSZ := hid (show (whole X D T j).size ≤ 9223372036854775807 by have := HBs.out; have := HQ.out; omega)
          go_wp2_with fail
          refine (fine _ _ _ _ _ HR.out.rd).mono ?_
          rintro e w' ⟨rfl, rfl⟩
          go_wp2_with fail
          refine (left _ _ _ _ _ HR.out.rd HFL.out HSZ.out).mono ?_
          rintro e w' ⟨nq, rfl, hw'⟩
          rw [HLF.out]
          have HB7 := hid (show Below w.heap.size w w' by rw [hw']; exact below_drewN HR.out.below nq)
          clear hw'
          go_wp2_with fail
          refine (wnum_nil 1 2 _ (by decide) (by decide) (by decide)).mono ?_
          rintro e w8 ⟨rfl, h8⟩
          have HB8 := hid (HB7.out.trans (h8.mono HB7.out.size))
          clear h8
          go_wp2_with fail
          refine (wtext_nil _ _).mono ?_
          rintro e w9 ⟨rfl, rfl⟩
          have HB9 := hid (HB8.out.alloc HB8.out.size (.cells #[.string ⟨#[120]⟩] 9))
          go_wp2_with fail
          refine (wbytes_nil _).mono ?_
          rintro e w9 ⟨rfl, rfl⟩
          go_wp2_with fail
          refine (wlen_nil _).mono ?_
          rintro e w9 ⟨rfl, rfl⟩
          go_wp2_with fail
          refine (lives _).mono ?_
          rintro e w9 ⟨rfl, h9⟩
          have HC9 := hid (HB9.out.trans (h9.mono HB9.out.size))
          clear h9
          go_wp2_with fail
          go_ret
          exact ⟨rfl, HC9.out⟩
end Fld
end Go.Proofs.Ythblaceldoikeaa
