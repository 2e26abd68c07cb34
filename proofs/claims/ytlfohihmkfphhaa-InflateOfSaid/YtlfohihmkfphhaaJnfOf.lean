/- INFLATE: all blocks, of the document. -/
import Derived.Test.YtlfohihmkfphhaaJnfSym
import Derived.Test.YtlfohihmkfphhaaJnfTab
import Derived.Test.YtlfohihmkfphhaaJnfO
import Derived.Test.YtlfohihmkfphhaaJnfP
namespace Go.Proofs.Ytlfohihmkfphhaa
set_option linter.unusedVariables false
open Go.RowKit
open Go.Proofs.Huf
attribute [local go_sem ↓] Go.wp_at_zero Go.wp_at_succ
namespace Inf
open Huff

theorem fixB_kind : kindOf (wT (fnL fixB) fixB.length) = 1 := by decide +kernel
theorem tables_two {F X L p q : Nat} {t : List Nat × List Nat} (hp : p ≤ L) (h : tablesP F X L p = .ok t q) : kindOf (wT (fnL t.2) t.2.length) = 0 ∨ kindOf (wT (fnL t.2) t.2.length) = 1 ∨ kindOf (wT (fnL t.2) t.2.length) = 2 := by
  unfold tablesP at h
  obtain ⟨a, p1, h1, h⟩ := bind_of h
  obtain ⟨b, p2, h2, h⟩ := bind_of h
  obtain ⟨k, p3, h3, h⟩ := bind_of h
  obtain ⟨m5, m6⟩ := take_le h3
  split at h
  · obtain ⟨f, p4, h4, h⟩ := bind_of h
    split at h
    · obtain ⟨l, p5, h5, h⟩ := bind_of h
      split at h
      · rename_i htab
        cases h
        rcases htab.2.2 with h0 | h0
        · left
          simpa using h0
        · right
          have := ok_kind h0
          simpa using this
      · cases h
    · cases h
  · cases h
def onO {β : Type} (X L : Nat) (r : Res (List UInt8)) (f : List UInt8 → Rdr β) : Res β := match r with
  | .ok o p => f o X L p
  | .bad e => .bad e
theorem onO_ok {β : Type} (X L : Nat) (o : List UInt8) (p : Nat) (f : List UInt8 → Rdr β) : onO X L (.ok o p) f = f o X L p := rfl
theorem onO_bad {β : Type} (X L e : Nat) (f : List UInt8 → Rdr β) : onO X L (.bad e) f = .bad e := rfl
def asN {α : Type} : Res α → Res Nat
  | .ok _ p => .ok 0 p
  | .bad e => .bad e
theorem Xs.asN {α : Type} {w : World} {S R : Nat} {s t : ByteArray} {most : Int} {r : Res α} (h : Xs w S R s t most r) : Xs w S R s t most (asN r) := by
  cases r with
  | ok a p => exact h.as rfl (fun b q e => by cases e; exact ⟨_, rfl⟩) (fun g e => by cases e)
  | bad e => exact h.as rfl (fun b q e => by cases e) (fun g e' => by cases e'; exact h.told _ rfl)
/-- What is known of the state. -/
structure OfS (W : World) (S R : Nat) (s : ByteArray) (most : Nat) (r : Res (List UInt8)) : Prop where
  ex : ∃ t, Xs W S R s t (most : Int) r ∧ ∀ o q, r = .ok o q → Str t o
theorem bind_blk {β : Type} {X L q : Nat} {f : Rdr (List UInt8)} (g : List UInt8 → Rdr β) : bind f g X L q = onO X L (f X L q) g := by
  unfold bind onO
  cases f X L q <;> rfl

set_option maxRecDepth 100000 in
set_option maxHeartbeats 16000000 in
/-- All bytes, of the document. -/
theorem refOfW (s : ByteArray) (mI : Int) (m K : Nat) (w : World) (hs : s.size ≤ 1048576) (hmI : mI ≤ 65000) (hm : max mI 0 = (m : Int)) (hK : 8 * s.size < K) :
    Calls Try.prog 20 #[.string s, .int .i64 mI] w fun e w' => e = .returned (ofV (infl s m K)) ∧ Below w.heap.size w w' := by
  have hm65 : m ≤ 65000 := by omega
  obtain ⟨X, hX⟩ : ∃ X, X = numS s := ⟨_, rfl⟩
  obtain ⟨L, hL⟩ : ∃ L, L = 8 * s.size := ⟨_, rfl⟩
  obtain ⟨rr, hrr⟩ : ∃ rr, rr = infl s m K := ⟨_, rfl⟩
  rw [← hrr]
  have HRR := hid (show rr = onO X L (.ok [] 0 : Res (List UInt8)) (blocksF m K K) from by rw [hrr, hX, hL]; rfl)
  have HXX := hid hX
  have HR := hid (show w.heap.size ≤ w.heap.size from Nat.le_refl _)
  have HTK := hid (fun n (hn : n ≤ 16) (t : ByteArray) (r : Res Nat) W (hw : Xs W (w.heap.size + 1) w.heap.size s t (m : Int) r) => takeX (w.heap.size + 1) w.heap.size w.heap.size s n t (m : Int) r W hw (by omega) (Nat.le_refl _) hs hn)
  have HST := hid (fun (p : Nat) (t : ByteArray) (out : List UInt8) W (hw : Xs W (w.heap.size + 1) w.heap.size s t (m : Int) (.ok () p)) (ht : Str t out) (ho : out.length ≤ m) => storedX (w.heap.size + 1) w.heap.size w.heap.size s p t out m W hw (by omega) (Nat.le_refl _) hs hm65 ht ho)
  have HTB := hid (fun (p : Nat) (t : ByteArray) W (hw : Xs W (w.heap.size + 1) w.heap.size s t (m : Int) (.ok () p)) (hB : w.heap.size ≤ W.heap.size) => tablesX (w.heap.size + 1) w.heap.size w.heap.size s p K t (m : Int) W hw (by omega) (Nat.le_refl _) hs hK hB)
  have HSY := hid (fun (A1 A2 : Option Addr) (b1 o1 cp1 b2 o2 cp2 : Nat) (l1 l2 : List Nat) (t : ByteArray) (out : List UInt8) (r : Res Nat) W (hw : Xs W (w.heap.size + 1) w.heap.size s t (m : Int) r) hok (h1 : Lk W A1 b1 o1 l1) (h2 : Lk W A2 b2 o2 l2) (hB : w.heap.size ≤ W.heap.size) => symbolsX (w.heap.size + 1) w.heap.size w.heap.size s A1 A2 b1 o1 cp1 b2 o2 cp2 l1 l2 K t out m r W hw (by omega) (Nat.le_refl _) hs hm65 hok h1 h2 hB)
  rw [← hX, ← hL] at HTK HST HTB HSY
  have HKL := hid (show L < K by omega)
  have HLS := hid hL
  clear hrr hX HR
  go_enter Try.func20, Try.ntmps20
  go_upto_region 1 with fail
  go_cut [7] (fun v wx => v = .pointer (some ⟨w.heap.size + 1, 0, none⟩) ∧ OfS wx (w.heap.size + 1) w.heap.size s m (.ok [] 0) ∧ Below w.heap.size w wx ∧ wx.heap.size = w.heap.size + 2)
  case first =>
    have hb1 := (Below.refl w.heap.size w).alloc (Nat.le_refl _) (.cells #[.string s, .int .i64 0, .bool false] 44)
    have hn1 := heap_alloc_new w (.cells #[.string s, .int .i64 0, .bool false] 44)
    have key : OfS ((w.alloc (.cells #[.string s, .int .i64 0, .bool false] 44)).alloc (.cells #[.pointer (some ⟨w.heap.size, 0, none⟩), .string ⟨#[]⟩, .int .i64 (m : Int), .int .i64 0] 46)) (w.heap.size + 1) w.heap.size s m (.ok [] 0) := by
      refine ⟨⟨#[]⟩, ⟨?_, ?_, ⟨_, (Below.heap_alloc _ _ _ (by simp)).trans hn1⟩, (fun f e => by cases e), (fun a p e => by cases e; exact Nat.zero_le _)⟩, (fun o q e => by cases e; rfl)⟩
      · have := heap_alloc_new (w.alloc (.cells #[.string s, .int .i64 0, .bool false] 44)) (.cells #[.pointer (some ⟨w.heap.size, 0, none⟩), .string ⟨#[]⟩, .int .i64 (m : Int), .int .i64 0] 46)
        rw [show (w.alloc (.cells #[.string s, .int .i64 0, .bool false] 44)).heap.size = w.heap.size + 1 by simp] at this
        exact this
      · intro a p e
        cases e
        exact (Below.heap_alloc _ _ _ (by simp)).trans hn1
    have KEY := hid key
    have HB := hid (hb1.alloc (o := .cells #[.pointer (some ⟨w.heap.size, 0, none⟩), .string ⟨#[]⟩, .int .i64 (m : Int), .int .i64 0] 46) (by simp))
    clear hb1 hn1 key
    by_cases h0 : mI < 0
    · obtain rfl : m = 0 := by omega
      have g1 : ¬ 0 ≤ mI := by omega
      go_wp2_with fail
      go_meet
      exact ⟨rfl, KEY.out, HB.out, by simp⟩
    · obtain rfl : mI = (m : Int) := by omega
      have g1 : (m : Int) ≤ 65000 := by omega
      go_wp2_with fail
      all_goals go_meet
      all_goals first | exact ⟨rfl, KEY.out, HB.out, by simp⟩ | (obtain rfl : m = 0 := (by omega); exact ⟨rfl, KEY.out, HB.out, by simp⟩)
  case rest =>
    obtain ⟨rfl, hofs, hbel, hsz⟩ := hcut
    have HO := hid hofs
    have HB := hid hbel
    have HZ := hid hsz
    clear hofs hbel hsz hm hmI
    go_wp2_with fail
    go_loopg [8] (L + 2) (fun gk lv wr => ∃ (r : Res (List UInt8)) (F' : Nat), OfS wr (w.heap.size + 1) w.heap.size s m r ∧ Kp TR w.heap.size w wr ∧ (∀ o q, r = .ok o q → o.length ≤ m) ∧
        ((lv = .int .i64 0 ∧ gk = meas L r + 1 ∧ (∀ o q, r = .ok o q → L - q < F') ∧ rr = onO X L r (blocksF m K F')) ∨ (lv = .int .i64 1 ∧ gk = 0 ∧ rr = r)))
    case atStart => exact ⟨.ok [] 0, K, HO.out, Kp.of_below HB.out (Nat.le_refl _), (fun o q e => by cases e; exact Nat.zero_le _), .inl ⟨rfl, rfl, (fun o q e => by cases e; have := HKL.out; omega), HRR.out⟩⟩
    case round =>
      obtain ⟨r, F', ⟨t, hx, hstr⟩, hkp, hol, hcase⟩ := hrel
      have XR := hid hx
      have KR := hid hkp
      have c3 := XR.out.c3
      clear hx hkp HO HRR

      rcases hcase with ⟨rfl, rfl, hF, hr⟩ | ⟨rfl, rfl, hr⟩
      rotate_left
      · cases r with
        | bad e =>
          simp only [whyOf] at c3
          have HBAD := hid hr
          have HFIN := hid (show ofV rr = .tuple #[.string ⟨#[]⟩, .int .i64 0, .int .i64 (e : Int)] from by
            rw [HBAD.out]
            show Value.tuple #[.string ⟨#[]⟩, .int .i64 0, .int .i64 (codeOf e : Int)] = _
            rw [show codeOf e = e from by rcases XR.out.told _ rfl with h | h | h <;> subst h <;> rfl])
          obtain ⟨n1, n2⟩ := XR.out.told.ne rfl
          go_upto_region 17 with fail
          go_quiet (fail)
          go_wp2_with fail
          go_returns
          exact ⟨by rw [HFIN.out]; rfl, KR.out.below.trans ⟨rfl, rfl, rfl, Nat.le_refl _, fun _ _ => rfl⟩⟩

        | ok o q =>
          simp only [whyOf] at c3
          have c1 := XR.out.c1
          have c0 := XR.out.c0
          have d1 := (XR.out.rd o q rfl).c1
          have hq : q ≤ 8 * s.size := XR.out.inn o q rfl
          have HFIN := hid (show ofV rr = .tuple #[.string t, .int .i64 (((q + 7) / 8 : Nat) : Int), .int .i64 0] from by rw [hr, hstr o q rfl]; rfl)
          obtain ⟨n, hn⟩ : ∃ n, n = (q + 7) / 8 := ⟨_, rfl⟩
          have e1 : IntKind.i64.wrap ((q : Int) + 7) = (q : Int) + 7 := IntWalk.i64_in _ (by omega)
          have e2 : ((q : Int) + 7).tdiv 8 = (n : Int) := by rw [Int.tdiv_eq_ediv_of_nonneg (by omega)]; omega
          have e3 : IntKind.i64.wrap (n : Int) = (n : Int) := IntWalk.i64_in _ (by omega)
          rw [← hn] at HFIN
          clear hn hr
          go_upto_region 18 with fail
          go_quiet (fail)
          go_wp2_with fail
          go_returns
          exact ⟨by rw [HFIN.out]; rfl, KR.out.below.trans ⟨rfl, rfl, rfl, Nat.le_refl _, fun _ _ => rfl⟩⟩
      · cases r with
        | bad e =>
          simp only [whyOf] at c3
          have HBAD := hid (show rr = .bad e from hr)
          have HFIN := hid (show ofV rr = .tuple #[.string ⟨#[]⟩, .int .i64 0, .int .i64 (e : Int)] from by
            rw [HBAD.out]
            show Value.tuple #[.string ⟨#[]⟩, .int .i64 0, .int .i64 (codeOf e : Int)] = _
            rw [show codeOf e = e from by rcases XR.out.told _ rfl with h | h | h <;> subst h <;> rfl])
          obtain ⟨n1, n2⟩ := XR.out.told.ne rfl
          go_upto_region 17 with fail
          go_quiet (fail)
          go_wp2_with fail
          go_returns
          exact ⟨by rw [HFIN.out]; rfl, KR.out.below.trans ⟨rfl, rfl, rfl, Nat.le_refl _, fun _ _ => rfl⟩⟩

        | ok o q =>
          simp only [whyOf] at c3
          have hoLm := hol o q rfl
          have HSTR := hid (hstr o q rfl)
          have hqL : q ≤ L := by rw [hL]; exact XR.out.inn o q rfl
          have hFq := hF o q rfl
          obtain ⟨F2, rfl⟩ : ∃ F2, F' = F2 + 1 := ⟨F' - 1, by omega⟩
          have hr0 : rr = blocksF m K (F2 + 1) o X L q := hr
          unfold blocksF at hr0
          obtain ⟨r0, hr0e⟩ : ∃ r0 : Res Nat, r0 = .ok 0 q := ⟨_, rfl⟩
          have X0 := hid (show Xs wr (w.heap.size + 1) w.heap.size s t (m : Int) r0 from by rw [hr0e]; exact XR.out.asN)
          obtain ⟨r1, h1⟩ : ∃ r1, r1 = on X L r0 (take 1) := ⟨_, rfl⟩
          have HT1 := hid (HTK.out 1 (by omega) t r0)
          rw [← h1] at HT1
          obtain ⟨n, hn⟩ : ∃ n, n = valOr r1 := ⟨_, rfl⟩
          have hn2 : n < 2 := by rw [hn, h1]; exact valOr_take
          rw [← hn] at HT1
          obtain ⟨r2, h2⟩ : ∃ r2, r2 = on X L r1 (take 2) := ⟨_, rfl⟩
          have HT2 := hid (HTK.out 2 (by omega) t r1)
          rw [← h2] at HT2
          obtain ⟨kind, hk⟩ : ∃ kind, kind = valOr r2 := ⟨_, rfl⟩
          have hk4 : kind < 4 := by rw [hk, h2]; exact valOr_take
          rw [← hk] at HT2
          have hr2 : rr = on X L r2 (bind (blockP m K kind o) fun out' => if n = 1 then ret out' else blocksF m K F2 out') := by
            have e0 : rr = on X L r0 (bind (take 1) fun last => bind (take 2) fun kind => bind (blockP m K kind o) fun out' => if last = 1 then ret out' else blocksF m K F2 out') := by rw [hr0, hr0e]; rfl
            rw [e0, on_bind, ← h1, ← hn, on_bind, ← h2, ← hk]
          have hpos : ∀ a' q', r2 = .ok a' q' → q' = q + 3 := by
            intro a' q' e
            rw [h2] at e
            obtain ⟨b, q0, e1, e2⟩ := on_take_ok e
            rw [h1] at e1
            obtain ⟨b2, q1, e3, e4⟩ := on_take_ok e1
            rw [hr0e] at e3
            cases e3
            omega
          have HR2 := hid hr2
          have HKK := hid hk
          clear hr hr0 hr2 h1 h2 hn hk hr0e hF hstr hol
          go_wp2_with fail
          refine (HT1.out _ X0.out).mono ?_
          rintro e w1 ⟨⟨rfl, x1⟩, k1⟩
          have X1 := hid x1
          have K1 := hid (KR.out.trans k1)
          clear x1 k1 c3
          go_wp2_with fail
          refine (HT2.out _ X1.out).mono ?_
          rintro e w2 ⟨⟨rfl, x2⟩, k2⟩
          have X2 := hid x2
          have K2 := hid (K1.out.trans k2)
          have c3 := x2.c3
          clear x2 k2 X0 X1 K1 HT1 HT2 HTK
          cases r2 with
          | bad e =>
            simp only [whyOf] at c3
            have HBAD := hid (show rr = .bad e from HR2.out)
            clear hk4
            have HFIN := hid (show ofV rr = .tuple #[.string ⟨#[]⟩, .int .i64 0, .int .i64 (e : Int)] from by
              rw [HBAD.out]
              show Value.tuple #[.string ⟨#[]⟩, .int .i64 0, .int .i64 (codeOf e : Int)] = _
              rw [show codeOf e = e from by rcases X2.out.told _ rfl with h | h | h <;> subst h <;> rfl])
            obtain ⟨n1, n2⟩ := X2.out.told.ne rfl
            go_upto_region 17 with fail
            go_quiet (fail)
            go_wp2_with fail
            go_returns
            exact ⟨by rw [HFIN.out]; rfl, K2.out.below.trans ⟨rfl, rfl, rfl, Nat.le_refl _, fun _ _ => rfl⟩⟩

          | ok a2 q2 =>
            simp only [whyOf] at c3
            obtain rfl := hpos a2 q2 rfl
            have hq2L : q + 3 ≤ L := by rw [hL]; exact X2.out.inn _ _ rfl
            have hr3 : rr = onO X L (blockP m K kind o X L (q + 3)) (fun out' => if n = 1 then ret out' else blocksF m K F2 out') := by rw [HR2.out, on_ok, bind_blk]
            obtain ⟨rb, hrb⟩ : ∃ rb, rb = blockP m K kind o X L (q + 3) := ⟨_, rfl⟩
            rw [← hrb] at hr3
            have hgood : ∀ o' q', rb = .ok o' q' → q + 3 ≤ q' ∧ q' ≤ L ∧ o'.length ≤ m := fun o' q' e => by
              rw [hrb] at e
              obtain ⟨a, b⟩ := (good_block m K kind o).mono _ _ _ _ _ ⟨s.size, hL⟩ hq2L e
              exact ⟨a, b, (room_block K kind m o _ _ _ _ _ hoLm e).2.1⟩
            have HNXT := hid (show ∀ wz, OfS wz (w.heap.size + 1) w.heap.size s m rb → Kp TR w.heap.size w wz → ∃ g, g < meas L (.ok o q : Res (List UInt8)) + 1 ∧ ∃ (r : Res (List UInt8)) (F' : Nat), OfS wz (w.heap.size + 1) w.heap.size s m r ∧ Kp TR w.heap.size w wz ∧ (∀ o q, r = .ok o q → o.length ≤ m) ∧
                (((.int .i64 (n : Int) : Value) = .int .i64 0 ∧ g = meas L r + 1 ∧ (∀ o q, r = .ok o q → L - q < F') ∧ rr = onO X L r (blocksF m K F')) ∨ ((.int .i64 (n : Int) : Value) = .int .i64 1 ∧ g = 0 ∧ rr = r)) from fun wz hz hk => by
              by_cases hn1 : n = 1
              · subst hn1
                refine ⟨0, by simp only [meas]; omega, rb, 0, hz, hk, fun o' q' e => (hgood o' q' e).2.2, .inr ⟨rfl, rfl, ?_⟩⟩
                rw [hr3]
                cases rb <;> rfl
              · obtain rfl : n = 0 := by omega
                refine ⟨meas L rb + 1, ?_, rb, F2, hz, hk, fun o' q' e => (hgood o' q' e).2.2, .inl ⟨rfl, rfl, fun o' q' e => by have := hgood o' q' e; omega, ?_⟩⟩
                · cases hb : rb with
                  | bad e => simp only [meas]; omega
                  | ok o' q' => have := hgood o' q' hb; simp only [meas]; omega
                · rw [hr3]
                  cases rb <;> rfl)
            have HRB := hid hrb
            have HSZ2 := hid K2.out.size
            clear hr3 hrb hgood HR2 HKK hpos hFq
            by_cases k0 : kind = 0
            · subst k0
              have hblk : rb = storedP m o X L (q + 3) := by rw [HRB.out]; unfold blockP; rw [if_pos rfl]
              have HSD := hid (HST.out (q + 3) t o _ (X2.out.as rfl (fun b q e => by cases e; exact ⟨_, rfl⟩) (fun g e => by cases e)) HSTR.out hoLm)
              rw [← hblk] at HSD
              clear hblk
              go_wp2_with fail
              refine HSD.out.mono ?_
              rintro e w3 ⟨⟨rfl, hxo⟩, k3⟩
              obtain ⟨gn, hgn, hnx⟩ := HNXT.out w3 ⟨hxo⟩ (K2.out.trans k3)
              have HGN := hid hgn
              have HNX := hid hnx
              clear hgn hnx hxo k3
              go_wp2_with fail
              go_roundg gn
              case measure => exact HGN.out
              case rel => exact HNX.out
            · have b0 : ((kind : Int) == 0) = false := beq_eq_false_iff_ne.2 (by omega)
              by_cases k1 : kind = 1
              · subst k1
                have hblk : rb = on X L (.ok 0 (q + 3) : Res Nat) (symsF (cdsOf fixA) (cdsOf fixB) m K o) := by rw [HRB.out]; unfold blockP; rw [if_neg (by decide), if_pos rfl]; rfl
                have HKLO := HKL.out
                have HSYF := hid (fun A1 b1 c1 A2 b2 c2 W (hw : Xs W (w.heap.size + 1) w.heap.size s t (m : Int) (.ok 0 (q + 3) : Res Nat)) (h1 : Lk W A1 b1 0 fixA) (h2 : Lk W A2 b2 0 fixB) (hB : w.heap.size ≤ W.heap.size) => HSY.out A1 A2 b1 0 c1 b2 0 c2 fixA fixB t o _ W hw (fun a' q' e => by cases e; exact ⟨HSTR.out, hoLm, by omega, .inl fix_kind, .inr (.inl fixB_kind)⟩) h1 h2 hB)
                rw [← hblk] at HSYF
                have HFX := hid (fun W => refFixedW W)
                clear hblk HKLO b0
                generalize fixA = la at *
                generalize fixB = lb at *
                go_wp2_with fail
                refine (HFX.out _).mono ?_
                rintro e w3 ⟨⟨A1, b1, c1, A2, b2, c2, rfl, hl1, hl2⟩, bb3⟩
                have X3 := hid (X2.out.grow bb3).asN
                have K3 := hid (K2.out.trans (Kp.of_below bb3 K2.out.size))
                have L1 := hid hl1
                have L2 := hid hl2
                clear bb3 hl1 hl2
                go_wp2_with fail
                refine (HSYF.out _ _ _ _ _ _ _ X3.out L1.out L2.out K3.out.size).mono ?_
                rintro e w4 ⟨⟨rfl, hxo⟩, k4⟩
                obtain ⟨gn, hgn, hnx⟩ := HNXT.out w4 ⟨hxo⟩ (K3.out.trans k4)
                have HGN := hid hgn
                have HNX := hid hnx
                clear hgn hnx hxo k4
                go_wp2_with fail
                go_roundg gn
                case measure => exact HGN.out
                case rel => exact HNX.out
              · have b1 : ((kind : Int) == 1) = false := beq_eq_false_iff_ne.2 (by omega)
                by_cases k2 : kind = 2
                · subst k2
                  obtain ⟨rt, hrt⟩ : ∃ rt, rt = tablesP K X L (q + 3) := ⟨_, rfl⟩
                  have HTBW := hid (HTB.out (q + 3) t _ (X2.out.as rfl (fun b q e => by cases e; exact ⟨_, rfl⟩) (fun g e => by cases e)) K2.out.size)
                  rw [← hrt] at HTBW
                  have hblk : ∀ l1 l2, (∀ a q', rt = .ok a q' → a = (l1, l2)) → rb = on X L (asN rt) (symsF (cdsOf l1) (cdsOf l2) m K o) := fun l1 l2 hl => by
                    rw [HRB.out]
                    unfold blockP
                    rw [if_neg (by decide), if_neg (by decide), if_pos rfl]
                    cases ht : rt with
                    | bad e => rw [bind_bad (hrt.symm.trans ht)]; rfl
                    | ok a q' => rw [bind_ok (hrt.symm.trans ht), hl a q' ht]; rfl
                  have hfacts : ∀ l1 l2, (∀ a q', rt = .ok a q' → a = (l1, l2)) → ∀ a q', asN rt = .ok a q' → Str t o ∧ o.length ≤ m ∧ L - q' < K ∧ (kindOf (wT (fnL l1) l1.length) = 1 ∨ kindOf (wT (fnL l1) l1.length) = 2) ∧ (kindOf (wT (fnL l2) l2.length) = 0 ∨ kindOf (wT (fnL l2) l2.length) = 1 ∨ kindOf (wT (fnL l2) l2.length) = 2) := fun l1 l2 hl a q' e => by
                    cases ht : rt with
                    | bad e2 => rw [ht] at e; cases e
                    | ok a2 q2 =>
                      have ht2 := hrt.symm.trans ht
                      obtain ⟨_, _, _, _, _, _, _, _, t9⟩ := tables_of hq2L ht2
                      have t10 := tables_two hq2L ht2
                      rw [hl a2 q2 ht] at t9 t10
                      have := HKL.out
                      exact ⟨HSTR.out, hoLm, by omega, t9, t10⟩
                  have HBLK := hid hblk
                  have HFACTS := hid hfacts
                  clear hblk hfacts hrt
                  go_wp2_with fail
                  refine HTBW.out.mono ?_
                  rintro e w3 ⟨⟨A1, b1', o1, n1, c1, A2, b2', o2, n2, c2, l1, l2, rfl, rfl, rfl, hl1, hl2, hx3, hsame, _⟩, k3⟩
                  have X3 := hid hx3.asN
                  have K3 := hid (K2.out.trans k3)
                  have L1 := hid hl1
                  have L2 := hid hl2
                  have HSYT := hid (HSY.out A1 A2 b1' o1 c1 b2' o2 c2 l1 l2 t o (asN rt) w3 X3.out (HFACTS.out l1 l2 hsame) hl1 hl2 K3.out.size)
                  rw [← HBLK.out l1 l2 hsame] at HSYT
                  clear hl1 hl2 hx3 hsame k3
                  go_wp2_with fail
                  refine HSYT.out.mono ?_
                  rintro e w4 ⟨⟨rfl, hxo⟩, k4⟩
                  obtain ⟨gn, hgn, hnx⟩ := HNXT.out w4 ⟨hxo⟩ (K3.out.trans k4)
                  have HGN := hid hgn
                  have HNX := hid hnx
                  clear hgn hnx hxo k4
                  go_wp2_with fail
                  go_roundg gn
                  case measure => exact HGN.out
                  case rel => exact HNX.out
                · have b2 : ((kind : Int) == 2) = false := beq_eq_false_iff_ne.2 (by omega)
                  have hblk : rb = .bad 2 := by rw [HRB.out]; unfold blockP; rw [if_neg k0, if_neg k1, if_neg k2]; rfl
                  have f3 := X2.out.free 3
                  have XW := hid (show OfS (w2.setCell ⟨w.heap.size + 1, 3, none⟩ (.int .i64 2)) (w.heap.size + 1) w.heap.size s m rb from ⟨t, by rw [hblk]; exact X2.out.wrong (f := 2) (.inl rfl), fun o q e => by rw [hblk] at e; cases e⟩)
                  obtain ⟨gn, hgn, hnx⟩ := HNXT.out _ XW.out (K2.out.trans (X2.out.kpS (by omega) 3 (.int .i64 2)))
                  have HGN := hid hgn
                  have HNX := hid hnx
                  clear hgn hnx hblk
                  go_wp2_with fail
                  go_roundg gn
                  case measure => exact HGN.out
                  case rel => exact HNX.out
end Inf
end Go.Proofs.Ytlfohihmkfphhaa

