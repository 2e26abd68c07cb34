/- INFLATE: InflateTables's walk. -/
import Derived.Test.YtlfohihmkfphhaaJnfTQ
import Derived.Test.YtlfohihmkfphhaaJnfTab
import Derived.Test.YtlfohihmkfphhaaJnfZ
namespace Go.Proofs.Ytlfohihmkfphhaa
set_option linter.unusedVariables false
open Go.RowKit
open Go.Proofs.Huf
attribute [local go_sem ↓] Go.wp_at_zero Go.wp_at_succ
namespace Inf
open Huff
theorem drew_two (w : World) (m n : Nat) : (w.drewN m).drewN n = w.drewN (m + n) := World.drewN_drewN _ _ _
theorem codeOf_told {f : Nat} (h : f = 2 ∨ f = 3 ∨ f = 4) : codeOf f = f := by rcases h with rfl | rfl | rfl <;> rfl
theorem Ls.cell {w : World} {A : Option Addr} {b off : Nat} {l : List Nat} (h : Ls w A b off l) (i : Nat) (hi : i < l.length) : A = some ⟨b, off, none⟩ ∧ w.cell? ⟨b, off + i, none⟩ = some (.int .i64 ((fnL l i : Nat) : Int)) := ⟨h.ad (by omega), h.row.at_ i hi⟩
theorem Ls.cell' {w : World} {A : Option Addr} {b off : Nat} {l : List Nat} (h : Ls w A b off l) {i : Nat} (hi : i < l.length) : A = some ⟨b, off, none⟩ ∧ w.cell? ⟨b, off + i, none⟩ = some (.int .i64 ((fnL l i : Nat) : Int)) := h.cell i hi
theorem Xs.keepT {α : Type} {w w' : World} {S R C : Nat} {s t : ByteArray} {most : Int} {r : Res α} {T : List Nat} (h : Xs w S R s t most r) (k : Kp T C w w') (h1 : 46 ∉ T) (h2 : 44 ∉ T) : Xs w' S R s t most r := by
  obtain ⟨cs, hb⟩ := h.blk
  exact ⟨k.keep _ _ _ _ h.st h1, fun a p e => k.keep _ _ _ _ (h.rd a p e) h2, ⟨cs, k.keep _ _ _ _ hb h2⟩, h.told, h.inn⟩
def tl (r : Res (List Nat × List Nat)) : List Nat × List Nat := match r with
  | .ok t _ => t
  | .bad _ => ([], [])
def codeN (r : Res (List Nat × List Nat)) : Nat := match r with
  | .ok _ _ => 0
  | .bad f => codeOf f
theorem lk_nil (w : World) : Lk w none 0 0 [] := ⟨⟨fun h => absurd h (Nat.lt_irrefl _), ⟨fun h => absurd h (Nat.lt_irrefl _), fun i hi => absurd hi (Nat.not_lt_zero _)⟩, Nat.zero_le _, fun i hi => absurd hi (Nat.not_lt_zero _)⟩, fun h => absurd h (Nat.lt_irrefl _)⟩
/-- Both tables, or none. -/
theorem ptabN (G : Nat) (s : ByteArray) (p K : Nat) (w : World) (h : Rd w G s p) (hs : s.size ≤ 1048576) (hp : p ≤ 8 * s.size) (hF : 8 * s.size - p < K) :
    Calls Try.prog 25 #[.pointer (some ⟨G, 0, none⟩)] w fun e w' => (∃ A1 b1 o1 c1 A2 b2 o2 c2, e = .returned (.tuple #[.slice A1 (tl (tablesP K (numS s) (8 * s.size) p)).1.length c1, .slice A2 (tl (tablesP K (numS s) (8 * s.size) p)).2.length c2, .int .i64 (codeN (tablesP K (numS s) (8 * s.size) p) : Int)]) ∧
      Lk w' A1 b1 o1 (tl (tablesP K (numS s) (8 * s.size) p)).1 ∧ Lk w' A2 b2 o2 (tl (tablesP K (numS s) (8 * s.size) p)).2) ∧ Kp T22 G w w' := by
  have hh := ptabW G s p K w h hs hp hF
  cases ht : tablesP K (numS s) (8 * s.size) p with
  | bad f =>
    rw [ht] at hh
    refine hh.mono ?_
    rintro e w' ⟨rfl, k⟩
    exact ⟨⟨none, 0, 0, 0, none, 0, 0, 0, rfl, lk_nil _, lk_nil _⟩, k⟩
  | ok t q =>
    rw [ht] at hh
    refine hh.mono ?_
    rintro e w' ⟨⟨A1, b1, o1, c1, A2, b2, o2, c2, rfl, l1, l2⟩, k⟩
    exact ⟨⟨A1, b1, o1, c1, A2, b2, o2, c2, rfl, l1, l2⟩, k⟩
theorem refTabN (S R B : Nat) (s : ByteArray) (p F : Nat) (t : ByteArray) (most : Int) (w : World) (h : Xs w S R s t most (.ok () p)) (hS : B ≤ S) (hR : B ≤ R) (hs : s.size ≤ 1048576) (hF : 8 * s.size < F) (hB : B ≤ w.heap.size) :
    Calls Try.prog 26 #[.pointer (some ⟨S, 0, none⟩)] w fun e w' => (∃ A1 b1 o1 c1 A2 b2 o2 c2, e = .returned (.tuple #[.slice A1 (tl (tablesP F (numS s) (8 * s.size) p)).1.length c1, .slice A2 (tl (tablesP F (numS s) (8 * s.size) p)).2.length c2]) ∧
      Lk w' A1 b1 o1 (tl (tablesP F (numS s) (8 * s.size) p)).1 ∧ Lk w' A2 b2 o2 (tl (tablesP F (numS s) (8 * s.size) p)).2 ∧ Xs w' S R s t most (tablesP F (numS s) (8 * s.size) p)) ∧ Kp TR B w w' := by
  refine (tablesX S R B s p F t most w h hS hR hs hF hB).mono ?_
  rintro e w' ⟨⟨A1, b1, o1, n1, c1, A2, b2, o2, n2, c2, l1, l2, rfl, rfl, rfl, h1, h2, hx, hok, hbad⟩, k⟩
  cases ht : tablesP F (numS s) (8 * s.size) p with
  | bad f =>
    obtain ⟨rfl, rfl⟩ := hbad f ht
    rw [ht] at hx
    exact ⟨⟨A1, b1, o1, c1, A2, b2, o2, c2, rfl, h1, h2, hx⟩, k⟩
  | ok a q =>
    obtain rfl := hok a q ht
    rw [ht] at hx
    exact ⟨⟨A1, b1, o1, c1, A2, b2, o2, c2, rfl, h1, h2, hx⟩, k⟩
set_option maxRecDepth 100000 in
set_option maxHeartbeats 8000000 in
theorem tabL (s0 : ByteArray) (sk : Int) (A : Option Addr) (b off len cap : Nat) (x : Nat → Int) (w : World) (hs0 : s0.size ≤ 9223372036854775807) (hk0 : 0 ≤ sk) (hk1 : sk ≤ 18446744073709551615) (hA : 0 < len → A = some ⟨b, off, none⟩) (hx : Ints w b off len x) (hlen : len ≤ 9223372036854775807) :
    Calls Try.prog 7 #[.string s0, .int .u64 sk, .slice A len cap] w fun e w' => e = .returned (.bool true) ∧ Below w.heap.size w w' := by
  have HX := hid hx
  have HA := hid hA
  clear hx hA
  go_enter Try.func7, Try.ntmps7
  go_upto_region 1 with fail
  go_cut [0] (fun a wx => ∃ s : ByteArray, s.size ≤ 200 ∧ a = .string s ∧ wx = w)
  case first =>
    by_cases h : s0.size ≤ 200
    · have h' : (s0.size : Int) ≤ 200 := by omega
      go_wp2_with fail
      all_goals go_meet
      all_goals exact ⟨_, by first | (rw [ByteArray.size_extract]; omega) | omega, rfl, rfl⟩
    · have h' : ¬ (s0.size : Int) ≤ 200 := by omega
      have h5 : (200 : Int) ≤ (s0.size : Int) := by omega
      go_wp2_with fail
      all_goals go_meet
      all_goals exact ⟨_, by first | (rw [ByteArray.size_extract]; omega) | omega, rfl, rfl⟩
  case rest =>
    obtain ⟨s, hs, rfl, hwc⟩ := hcut
    have hwc' := hwc.symm
    subst hwc'
    clear hs0
    by_cases hl : (300 : Int) < (len : Int)
    · go_wp2_with fail
      refine (lives _).mono ?_
      rintro e w2 ⟨rfl, b2⟩
      have B2 := hid b2
      clear b2
      go_wp2_with fail
      go_ret
      exact ⟨rfl, B2.out⟩
    · have hl3 : len ≤ 300 := by omega
      go_upto_region 4 with fail
      have HS := hid hs
      have n1 := heap_alloc_new w (.cells #[.string s, .int .i64 0, .bool false] 71)
      have n2 := heap_alloc_new (w.alloc (.cells #[.string s, .int .i64 0, .bool false] 71)) (.cells #[.string s, .int .i64 0, .bool false] 44)
      have n3 := heap_alloc_new ((w.alloc (.cells #[.string s, .int .i64 0, .bool false] 71)).alloc (.cells #[.string s, .int .i64 0, .bool false] 44)) (.cells #[.pointer (some ⟨w.heap.size + 1, 0, none⟩), .string ⟨#[]⟩, .int .i64 0, .int .i64 0] 46)
      simp only [World.size_alloc] at n2 n3
      have HRD := hid (show Rd (((w.alloc (.cells #[.string s, .int .i64 0, .bool false] 71)).alloc (.cells #[.string s, .int .i64 0, .bool false] 44)).alloc (.cells #[.pointer (some ⟨w.heap.size + 1, 0, none⟩), .string ⟨#[]⟩, .int .i64 0, .int .i64 0] 46)) w.heap.size s 0 from
        (Below.heap_alloc _ _ _ (by simp; omega)).trans ((Below.heap_alloc _ _ _ (by simp)).trans n1))
      have HXS := hid (show Xs (((w.alloc (.cells #[.string s, .int .i64 0, .bool false] 71)).alloc (.cells #[.string s, .int .i64 0, .bool false] 44)).alloc (.cells #[.pointer (some ⟨w.heap.size + 1, 0, none⟩), .string ⟨#[]⟩, .int .i64 0, .int .i64 0] 46)) (w.heap.size + 1 + 1) (w.heap.size + 1) s ⟨#[]⟩ 0 (.ok () 0 : Res Unit) from
        ⟨n3, (fun a p e => by cases e; exact (Below.heap_alloc _ _ _ (by simp)).trans n2), ⟨_, (Below.heap_alloc _ _ _ (by simp)).trans n2⟩, (fun f e => by cases e), (fun a p e => by cases e; exact Nat.zero_le _)⟩)
      have HBW := hid (show Below w.heap.size w (((w.alloc (.cells #[.string s, .int .i64 0, .bool false] 71)).alloc (.cells #[.string s, .int .i64 0, .bool false] 44)).alloc (.cells #[.pointer (some ⟨w.heap.size + 1, 0, none⟩), .string ⟨#[]⟩, .int .i64 0, .int .i64 0] 46)) from
        (((Below.refl _ _).alloc (Nat.le_refl _) _).alloc (by simp) _).alloc (by simp; omega) _)
      clear n1 n2 n3
      go_wp2_with fail
      refine (rread s _).mono ?_
      rintro e w1 ⟨rfl, rfl⟩
      go_upto_region 5 with fail
      generalize ((w.alloc (.cells #[.string s, .int .i64 0, .bool false] 71)).alloc (.cells #[.string s, .int .i64 0, .bool false] 44)).alloc (.cells #[.pointer (some ⟨w.heap.size + 1, 0, none⟩), .string ⟨#[]⟩, .int .i64 0, .int .i64 0] 46) = W at HRD HXS HBW ⊢
      go_cut [9] (fun v wx => ∃ k : Nat, k ≤ 7 ∧ k ≤ 8 * s.size ∧ v = .int .i64 (k : Int) ∧ wx = W)
      case first =>
        obtain ⟨j, hj⟩ : ∃ j : Nat, sk % 8 = (j : Int) := ⟨(sk % 8).toNat, by omega⟩
        have hj7 : j ≤ 7 := by omega
        have f2 : sk.tmod 8 = (j : Int) := by rw [Int.tmod_eq_emod_of_nonneg hk0, hj]
        have f3 : IntKind.u64.wrap (j : Int) = (j : Int) := IntWalk.u64_in _ (by omega)
        have f4 : IntKind.i64.wrap (j : Int) = (j : Int) := IntWalk.i64_in _ (by omega)
        have f5 : IntKind.i64.wrap (8 * (s.size : Int)) = 8 * (s.size : Int) := IntWalk.i64_in _ (by omega)
        by_cases hle : j ≤ 8 * s.size
        · have g1 : (j : Int) ≤ 8 * (s.size : Int) := by omega
          go_wp2_with fail
          all_goals go_meet
          all_goals exact ⟨j, hj7, hle, rfl, rfl⟩
        · have g1 : ¬ (j : Int) ≤ 8 * (s.size : Int) := by omega
          have g2 : (8 : Int) * (s.size : Int) ≤ (j : Int) := by omega
          go_wp2_with fail
          all_goals go_meet
          all_goals exact ⟨8 * s.size, by omega, Nat.le_refl _, by first | rfl | (simp; done), rfl⟩
      case rest =>
        obtain ⟨k, hk7, hk8, rfl, hwc2⟩ := hcut
        have hwc2' := hwc2.symm
        subst hwc2'
        have HB1 := hid (rbitsP w.heap.size s 0 k (numS s) _ HRD.out (by have := HS.out; omega) (by omega) (by omega) (numS_byte s))
        have HF1 := hid (fun V (hr : Rf V (w.heap.size + 1) s 0 false) => refBitsN (w.heap.size + 1) s 0 k V hr (by have := HS.out; omega) (by omega) (by omega))
        rw [Nat.zero_add] at HB1 HF1
        have HPT := hid (fun V (hr : Rd V w.heap.size s k) => ptabN w.heap.size s k 2000 V hr (by have := HS.out; omega) hk8 (by have := HS.out; omega))
        have HDT := hid (fun V (hr : Xs V (w.heap.size + 1 + 1) (w.heap.size + 1) s ⟨#[]⟩ 0 (.ok () k : Res Unit)) (hB : w.heap.size ≤ V.heap.size) => refTabN (w.heap.size + 1 + 1) (w.heap.size + 1) w.heap.size s k 2000 ⟨#[]⟩ 0 V hr (by omega) (by omega) (by have := HS.out; omega) (by have := HS.out; omega) hB)
        obtain ⟨rt, hrt⟩ : ∃ rt, rt = tablesP 2000 (numS s) (8 * s.size) k := ⟨_, rfl⟩
        rw [← hrt] at HPT HDT
        clear hrt
        have HCN := hid (show Told rt → codeN rt = whyOf rt from fun ht => by
          cases rt with
          | ok a q => rfl
          | bad f => exact codeOf_told (ht f rfl))
        obtain ⟨cn, hcn⟩ : ∃ cn, cn = codeN rt := ⟨_, rfl⟩
        rw [← hcn] at HPT HCN
        clear hcn
        obtain ⟨u1, hu1⟩ : ∃ u1, u1 = (tl rt).1 := ⟨_, rfl⟩
        obtain ⟨u2, hu2⟩ : ∃ u2, u2 = (tl rt).2 := ⟨_, rfl⟩
        rw [← hu1, ← hu2] at HPT HDT
        clear hu1 hu2
        go_wp2_with fail
        refine HB1.out.mono ?_
        rintro e w1 ⟨rfl, l1⟩
        have R1 := hid l1.rd
        have X1 := hid (show Xs w1 (w.heap.size + 1 + 1) (w.heap.size + 1) s ⟨#[]⟩ 0 (.ok () 0 : Res Unit) from
          ⟨(l1.only.block _ HXS.out.lt (by omega)).trans HXS.out.st, (fun a p e => (l1.only.block _ (Array.getElem?_eq_some_iff.1 HXS.out.blk.choose_spec).1 (by omega)).trans (HXS.out.rd a p e)), ⟨_, (l1.only.block _ (Array.getElem?_eq_some_iff.1 HXS.out.blk.choose_spec).1 (by omega)).trans HXS.out.blk.choose_spec⟩, HXS.out.told, HXS.out.inn⟩)
        have B1 := hid (HBW.out.trans (Kp.of_only (T := T22) l1.only HRD.out (by decide) (Nat.le_refl _) (.inr ⟨_, l1.rd, rfl, by simp [Value.oneCell']⟩)).below)
        have c0 := X1.out.c0
        clear l1 HB1 HRD HXS
        go_wp2_with fail
        refine (HF1.out _ (X1.out.rd () 0 rfl)).mono ?_
        rintro e w2 ⟨rfl, l2⟩
        have R2 := hid (show Rd w2 w.heap.size s k from (l2.only.block _ R1.out.lt (by omega)).trans R1.out)
        have X2 := hid (show Xs w2 (w.heap.size + 1 + 1) (w.heap.size + 1) s ⟨#[]⟩ 0 (.ok () k : Res Unit) from
          ⟨(l2.only.block _ X1.out.lt (by omega)).trans X1.out.st, (fun a p e => by cases e; exact l2.rf), ⟨_, l2.rf⟩, (fun f e => by cases e), (fun a p e => by cases e; exact hk8)⟩)
        have B2 := hid (B1.out.trans (Kp.of_only (T := TR) l2.only (X1.out.rd () 0 rfl) (by decide) (by omega)).below)
        clear l2 HF1 c0 R1 X1 B1
        go_wp2_with fail
        refine (HPT.out _ R2.out).mono ?_
        rintro e w3 ⟨⟨A1, b1, o1, c1, A2, b2, o2, c2, rfl, p1, p2⟩, k3⟩
        have P1 := hid p1
        have P2 := hid p2
        have X3 := hid (X2.out.keepT k3 (by decide) (by decide))
        have B3 := hid (B2.out.trans k3.below)
        clear p1 p2 k3 HPT
        go_wp2_with fail
        refine (HDT.out _ X3.out B3.out.size).mono ?_
        rintro e w4 ⟨⟨D1, e1, f1, g1, D2, e2, f2, g2, rfl, d1, d2, x4⟩, k4⟩
        have Q1 := hid (fun m => (P1.out.kp k4 (by decide)).grow (w' := w4.drewN m) ⟨rfl, rfl, rfl, Nat.le_refl _, fun _ _ => rfl⟩)
        have Q2 := hid (fun m => (P2.out.kp k4 (by decide)).grow (w' := w4.drewN m) ⟨rfl, rfl, rfl, Nat.le_refl _, fun _ _ => rfl⟩)
        have E1 := hid (fun m => d1.grow (w' := w4.drewN m) ⟨rfl, rfl, rfl, Nat.le_refl _, fun _ _ => rfl⟩)
        have E2 := hid (fun m => d2.grow (w' := w4.drewN m) ⟨rfl, rfl, rfl, Nat.le_refl _, fun _ _ => rfl⟩)
        have B4 := hid (B3.out.trans k4.below)
        have c3 := x4.c3
        have hcn := HCN.out x4.told
        rw [← hcn] at c3
        have F1 := hid d1.ls.few
        have F2 := hid d2.ls.few
        clear d1 d2 x4 k4 hcn HDT X2 X3 P1 P2 R2 B2 B3 HCN
        go_wp2_with fail
        go_loopw [82] (fun i wr => ∃ n m : Nat, n ≤ u1.length ∧ i = .int .i64 (n : Int) ∧ wr = w4.drewN m) (fun i _ => u1.length - (intOf i).toNat)
        case atStart => exact ⟨0, 0, Nat.zero_le _, rfl, rfl⟩
        case round =>
          obtain ⟨n, m, hn, rfl, hwr⟩ := hrel
          by_cases hlt : n < u1.length
          · obtain ⟨hA, hc⟩ := (Q1.out m).ls.cell' hlt
            obtain ⟨hD, hd⟩ := (E1.out m).ls.cell' hlt
            rw [← hwr] at hc hd
            subst hA hD
            have gi : (n : Int) < (u1.length : Int) := by omega
            have HW := hid hwr
            clear hwr c3
            have hf3 := F1.out
            generalize fnL u1 n = y at *
            go_upto_region 15 with fail
            go_quiet (fail)
            go_wp2_with fail
            go_roundw
            case rel => exact ⟨n + 1, m + nq, hlt, by go_num, by rw [HW.out, drew_two]⟩
            case measure => simp [intOf]; omega
          · obtain rfl : u1.length = n := by omega
            have gi : ¬ (u1.length : Int) < (u1.length : Int) := by omega
            have HW := hid hwr
            have BW := hid (show Below w.heap.size w wr from by rw [hwr]; exact B4.out.trans ⟨rfl, rfl, rfl, Nat.le_refl _, fun _ _ => rfl⟩)
            clear hwr c3
            go_wp2_with fail
            go_loopw [97] (fun i ws => ∃ n m : Nat, n ≤ u2.length ∧ i = .int .i64 (n : Int) ∧ ws = w4.drewN m) (fun i _ => u2.length - (intOf i).toNat)
            case atStart => exact ⟨0, m, Nat.zero_le _, rfl, HW.out⟩
            case round =>
              obtain ⟨n, m, hn, rfl, hwr⟩ := hrel
              by_cases hlt : n < u2.length
              · obtain ⟨hA, hc⟩ := (Q2.out m).ls.cell' hlt
                obtain ⟨hD, hd⟩ := (E2.out m).ls.cell' hlt
                rw [← hwr] at hc hd
                subst hA hD
                have gi2 : (n : Int) < (u2.length : Int) := by omega
                have HW2 := hid hwr
                clear hwr
                have hf3 := F2.out
                generalize fnL u2 n = y at *
                go_upto_region 21 with fail
                go_quiet (fail)
                go_wp2_with fail
                go_roundw
                case rel => exact ⟨n + 1, m + nq, hlt, by go_num, by rw [HW2.out, drew_two]⟩
                case measure => simp [intOf]; omega
              · obtain rfl : u2.length = n := by omega
                have gi2 : ¬ (u2.length : Int) < (u2.length : Int) := by omega
                have BW2 := hid (show Below w.heap.size w wr from by rw [hwr]; exact B4.out.trans ⟨rfl, rfl, rfl, Nat.le_refl _, fun _ _ => rfl⟩)
                have I2 := hid (HX.out.below BW2.out)
                have HL1 := hid (lengthsW A b off len cap x wr HA.out I2.out (by omega))
                have HL2 := hid (fun W (hi : Ints W b off len x) => refLengthsW A b off len cap x W HA.out hi (by omega))
                generalize okB x len = ok at *
                clear hwr
                go_wp2_with fail
                refine HL1.out.mono ?_
                rintro e w5 ⟨rfl, b5⟩
                have B5 := hid (BW2.out.trans (b5.mono BW2.out.size))
                have I5 := hid (I2.out.below b5)
                clear b5
                go_wp2_with fail
                refine (HL2.out _ I5.out).mono ?_
                rintro e w6 ⟨rfl, rfl⟩
                go_wp2_with fail
                refine (lives _).mono ?_
                rintro e w7 ⟨rfl, b7⟩
                have B7 := hid (B5.out.trans (b7.mono B5.out.size))
                clear b7
                go_wp2_with fail
                go_ret
                exact ⟨rfl, B7.out⟩
end Inf
end Go.Proofs.Ytlfohihmkfphhaa
