/- LZ: the bytes of tokens, as the program makes them. -/
import Derived.Test.YtlhgkemiakekoaaLzF
import Derived.Laws.IdiomStrings
import Derived.Lib.AppendStr
namespace Go.Proofs.Ytlhgkemiakekoaa
set_option linter.unusedVariables false
open Go.RowKit
attribute [local go_sem ↓] Go.wp_at_zero Go.wp_at_succ
namespace Lz
def byteCells (l : List UInt8) : List Value := l.map fun b => Value.int .u8 (b.toNat : Int)
theorem byteCells_append (l m : List UInt8) : byteCells (l ++ m) = byteCells l ++ byteCells m := by unfold byteCells; simp
theorem und38 : Try.prog.underlying 38 = some (.slice 5) := by kernel_rfl
theorem info5 : (Try.prog.info? 5).map (fun i => (i.zero, i.size, i.bytes)) = some (some (.int .u8 0), 1, 1) := by kernel_rfl
def OwnB (w : World) (B : Nat) (v : Value) (l : List UInt8) : Prop := w.ownsRow B 5 1 v l.length (byteCells l)
theorem OwnB.form {w : World} {B : Nat} {v : Value} {o : List UInt8} (h : OwnB w B v o) :
    ∃ (A : Option Addr) (cap g : Nat), v = .slice A o.length cap ∧ ∀ i, i < o.length → A = some ⟨g, 0, none⟩ ∧ w.cell? ⟨g, i, none⟩ = some (.int .u8 ((o.getD i 0).toNat : Int)) := by
  rcases h.2 with ⟨rfl, h0⟩ | ⟨g, cap, cur, rfl, _⟩
  · exact ⟨none, 0, 0, by rw [h0], fun i hi => absurd hi (by omega)⟩
  · refine ⟨_, cap, g, rfl, fun i hi => ⟨rfl, ?_⟩⟩
    rw [World.ownsRow.cellAt h i (by omega)]
    simp [byteCells, hi]
theorem grown_keeps {w w' : World} {base n k : Nat} {v : Value} {xs : List Value} {t : TypeId} {cs : Array Value} (ho : w.ownsRow base 5 1 v n xs) (hg : w.grownBy w' v.ownBlock) (hb : w.heap[k]? = some (.cells cs t (0, 0))) (ht : t ≠ 5) :
    w'.heap[k]? = some (.cells cs t (0, 0)) := by
  have hlt := (Array.getElem?_eq_some_iff.1 hb).1
  have hne : some k ≠ v.ownBlock := by
    intro e
    rcases ho.2 with ⟨rfl, rfl⟩ | ⟨g, cap, cur, rfl, _, hgc, _⟩
    · simp [Value.ownBlock] at e
    · simp only [Value.ownBlock, Option.some.injEq] at e
      subst e
      rw [hb] at hgc
      simp only [Option.some.injEq, Obj.cells.injEq] at hgc
      exact ht hgc.2.1
  exact (hg.block k hlt hne).trans hb
theorem conv_own {w : World} {v : Value} {b0 : Nat} {l : List UInt8} {k : Nat} (hk : l.length = k) (h : w.ownsRow b0 5 1 v k (byteCells l)) : (convert 38 9 v).run Try.prog w = .ok (.string ⟨l.toArray⟩) w := by
  subst hk
  rcases h.2 with ⟨rfl, hn⟩ | ⟨g, cap, cur, rfl, hb, hg, _, _, _, htk⟩
  · have : l = [] := List.eq_nil_of_length_eq_zero hn
    subst this
    rw [run_convert_bytes_string w 38 9 5 none 0 0 und38 Try.underlying5 Try.underlying9]
    simp [Conv.bytesToString]
    rfl
  · refine run_convert_bytes_back (P := Try.prog) w 38 9 5 ⟨g, 0, none⟩ cap l und38 Try.underlying5 Try.underlying9 ?_
    intro j hj
    have hadd : (⟨g, 0, none⟩ : Addr).add j = ⟨g, j, none⟩ := by unfold Addr.add; split <;> simp_all
    rw [hadd, cell_of_row w g j cur 5 (0, 0) hg]
    have h1 : (cur.toList.take (l.length * 1))[j]? = (byteCells l)[j]? := by rw [htk]
    rw [Nat.mul_one, List.getElem?_take_of_lt hj] at h1
    rw [← Array.getElem?_toList, h1]
    simp [byteCells, hj]
/-- A row of bytes, a box of a token beside it. -/
structure Bb (w W : World) (G : Nat) (x y z : Int) (v : Value) (l : List UInt8) : Prop where
  bx : Bx w W G x y z
  own : OwnB W w.heap.size v l
theorem Bb.step {w W W' : World} {G : Nat} {x y z : Int} {v : Value} {l : List UInt8} (h : Bb w W G x y z v l) (hb : Below W.heap.size W W') : Bb w W' G x y z v l := ⟨h.bx.step hb, own_below h.own hb⟩
theorem Bb.next {w W w1 : World} {G : Nat} {x y z : Int} {v v' : Value} {l : List UInt8} {u : UInt8} {ob : Obj} (h : Bb w W G x y z v l)
    (ho : w1.ownsRow w.heap.size 5 1 v' (l.length + 1) (byteCells l ++ [.int .u8 (u.toNat : Int)])) (hg : (W.alloc ob).grownBy w1 v.ownBlock) : Bb w w1 G x y z v' (l ++ [u]) := by
  have hs : Bb w (W.alloc ob) G x y z v l := h.step ((Below.refl _ _).alloc (Nat.le_refl _) _)
  refine ⟨⟨grown_keeps hs.own hg hs.bx.blk (by decide), hs.bx.below.grown hg hs.bx.below.size (fun k hk => (h.own.lt k hk).1)⟩, ?_⟩
  unfold OwnB
  rw [byteCells_append, show (l ++ [u]).length = l.length + 1 by simp]
  exact ho
theorem expT_pre {x y z : Nat → Int} {n : Nat} {l : List UInt8} (h : expT x y z n = some l) {k : Nat} (hk : k < n) {l' : List UInt8} (h' : expT x y z k = some l') : ∃ l'', oneE l' (x k) (y k) (z k) = some l'' ∧ expT x y z (k + 1) = some l'' := by
  cases e : oneE l' (x k) (y k) (z k) with
  | none => rw [expT_none (k := k + 1) ((expT_succ h').trans e) n (by omega)] at h; simp at h
  | some l'' => exact ⟨l'', rfl, (expT_succ h').trans e⟩
theorem u8_back {x : Int} (h0 : 0 ≤ x) (h1 : x < 256) : (((UInt8.ofNat x.toNat).toNat : Nat) : Int) = x := by
  rw [UInt8.toNat_ofNat']
  omega
theorem oneE_cases {l l' : List UInt8} {x y z : Int} (h : oneE l x y z = some l') : (isB y z ∧ l' = l ++ [UInt8.ofNat x.toNat]) ∨ (isC x y z l.length ∧ ¬ isB y z ∧ l' = copyT l z.toNat y.toNat) := by
  unfold oneE at h
  split at h
  · rename_i hb
    split at h
    · simp at h; exact .inl ⟨hb, h.symm⟩
    · simp at h
  · rename_i hb
    split at h
    · rename_i hc
      split at h
      · simp at h; exact .inr ⟨hc, hb, h.symm⟩
      · simp at h
    · simp at h
def expV (r : Option (List UInt8)) : Value := match r with
  | none => .tuple #[.string ⟨#[]⟩, .bool false]
  | some l => .tuple #[.string ⟨l.toArray⟩, .bool true]

set_option maxRecDepth 100000 in
set_option maxHeartbeats 4000000 in
theorem expand (A : Option Addr) (b off n c : Nat) (x y z : Nat → Int) (w : World) (hn : n ≤ 1000000) (hs : ToksAt w A b off n x y z) (hx : ∀ k, k < n → 0 ≤ x k ∧ x k < 256) :
    Calls Try.prog 8 #[.slice A n c] w fun e w' => e = .returned (expV (expT x y z n)) ∧ Below w.heap.size w w' := by
  have HS := hid hs
  have HU := hid hx
  have HM := hid (made A b off n c x y z w hn hs)
  clear hs hx
  cases h : expT x y z n with
  | none =>
    rw [h] at HM
    unfold madeV at HM
    go_enter Try.func8, Try.ntmps8
    go_wp2_with fail
    refine HM.out.mono ?_
    rintro e w1 ⟨rfl, b1⟩
    go_wp2_with fail
    go_ret2
    exact ⟨rfl, b1⟩
  | some L =>
    rw [h] at HM
    unfold madeV at HM
    have HH := hid h
    have hL := expT_len n L h
    clear h
    obtain ⟨i0, hi, hz0, hz1, hz2⟩ := info_parts info5
    have HI := hid hi
    clear hi
    have HPRE := hid (fun k hk l' h' => expT_pre HH.out (k := k) hk (l' := l') h')
    go_enter Try.func8, Try.ntmps8
    go_wp2_with fail
    refine HM.out.mono ?_
    rintro e w1 ⟨rfl, b1⟩
    have HB1 := hid b1
    have hz1' := b1.size
    clear b1
    generalize L.length = Ln at *
    have HLN0 := hid hL
    clear hL
    go_wp2_with (refine wpList_make_own _ rfl _ _ 38 rfl w.heap.size 5 i0 (.int .u8 0) 1 und38 HI.out hz0 hz1 (.i64) (.i64) (Ln : Int) Ln rfl rfl rfl (by have h9 := HLN0.out; rw [hz2]; omega) (by have h9 := HLN0.out; unfold maxLen; omega) hz1' ?_; intro w2 ho2 hg2; have HO2 := hid ho2; have HB2 := hid (HB1.out.grown hg2 hz1' (fun k hk => by cases hk)); clear ho2 hg2)
    go_loopw [6, 20] (fun bb i wr => ∃ (k : Nat) (l : List UInt8), k ≤ n ∧ i = .int .i64 k ∧ expT x y z k = some l ∧ OwnB wr w.heap.size bb l ∧ Below w.heap.size w wr) (fun _ i _ => n - (intOf i).toNat)
    case atStart => exact ⟨0, [], Nat.zero_le _, rfl, rfl, HO2.out, HB2.out⟩
    case round =>
      obtain ⟨k, l, hk, rfl, hrun, hown, hB⟩ := hrel
      have HR := hid hrun
      have HO := hid hown
      have HB := hid hB
      have HLN := hid (expT_len k l hrun)
      clear hrun hown hB
      by_cases hlt : k < n
      · obtain rfl := HS.out.ad (by omega)
        obtain ⟨c0, c1, c2⟩ := (HS.out.below HB.out).at_ k hlt
        obtain ⟨l2, hone, hnext⟩ := HPRE.out k hlt l HR.out
        have HN := hid hnext
        have HX := hid (HU.out k hlt)
        have BC := hid (fun W => isByte (x k) (y k) (z k) W)
        have hcs := oneE_cases hone
        clear hone hnext
        generalize x k = s at *
        generalize y k = p at *
        generalize z k = m at *
        obtain ⟨u, hu⟩ : ∃ u : UInt8, (u.toNat : Int) = s := ⟨UInt8.ofNat s.toNat, u8_back HX.out.1 HX.out.2⟩
        subst hu
        rcases hcs with ⟨hb, rfl⟩ | ⟨hc, hnb, rfl⟩
        · rw [show UInt8.ofNat ((u.toNat : Int)).toNat = u by simp] at HN
          rw [decide_eq_true hb] at BC
          obtain ⟨rfl, rfl⟩ := hb
          go_wp2_with fail
          refine (BC.out _).mono ?_
          rintro e w3 ⟨rfl, b3⟩
          have K1 := hid ((Bb.mk (bx_new HB.out (u.toNat : Int) 0 0) (HO.out.alloc _)).step b3)
          clear b3 c0 c1 c2
          obtain ⟨d0, d1, d2⟩ := K1.out.bx.cells
          have hz9 := K1.out.bx.below.size
          have hl9 := HLN.out
          go_wp2_with (at_builtin; refine wpList_append_own _ rfl _ _ 38 rfl w.heap.size 5 i0 (.int .u8 0) 1 1 und38 HI.out hz0 hz1 hz2 rfl (by decide) _ _ _ rfl (K1.out.own.alloc _) _ 1 1 [.int .u8 (u.toNat : Int)] rfl rfl (World.news_of_block (heap_alloc_new _ _)) (by simp [Value.oneCell']) (by simp [maxLen]; omega) (by omega) (by simp only [World.alloc, Array.size_push]; omega) ?_; intro v' w8 hown8 hgrow8 _; have R := hid (K1.out.next hown8 hgrow8); clear hown8 hgrow8 d0 d1 d2; have d0 := R.out.bx.cells.1; have d1 := R.out.bx.cells.2.1; have d2 := R.out.bx.cells.2.2)
          try (go_wp2_with fail)
          obtain ⟨wo, rfl⟩ : ∃ wo : World, wo = wr := ⟨_, rfl⟩
          go_loopw [6, 33] (fun bb j wr => bb = v' ∧ j = .int .i64 0 ∧ w8 = wr) (fun _ _ _ => 0)
          case atStart => exact ⟨rfl, rfl, rfl⟩
          case round =>
            obtain ⟨rfl, rfl, rfl⟩ := hrel
            go_wp2_with fail
            go_roundw
            case rel => exact ⟨k + 1, _, by omega, by go_num, HN.out, R.out.own, R.out.bx.below⟩
            case measure => simp [intOf]; omega
        · rw [decide_eq_false hnb] at BC
          clear hnb
          obtain ⟨h1, h2, h3, h4, h5, h6⟩ := hc
          obtain ⟨Y, rfl⟩ := Int.eq_ofNat_of_zero_le (show 0 ≤ p by omega)
          obtain ⟨K, rfl⟩ := Int.eq_ofNat_of_zero_le (show 0 ≤ m by omega)
          simp only [Int.toNat_natCast] at HN
          have HC := hid (And.intro (show Y ≤ 258 by omega) (And.intro (show 1 ≤ K by omega) (show K ≤ l.length by omega)))
          clear h1 h2 h3 h4 h5 h6
          go_wp2_with fail
          refine (BC.out _).mono ?_
          rintro e w3 ⟨rfl, b3⟩
          have K1 := hid ((Bb.mk (bx_new HB.out (u.toNat : Int) (Y : Int) (K : Int)) (HO.out.alloc _)).step b3)
          clear b3 c0 c1 c2
          obtain ⟨d0, d1, d2⟩ := K1.out.bx.cells
          go_wp2_with fail
          clear d0 d1 d2
          obtain ⟨wo, rfl⟩ : ∃ wo : World, wo = wr := ⟨_, rfl⟩
          go_loopw [6, 33] (fun bb j wr => ∃ J : Nat, J ≤ Y ∧ j = .int .i64 J ∧ Bb w wr wo.heap.size (u.toNat : Int) (Y : Int) (K : Int) bb (copyT l K J)) (fun _ j _ => Y - (intOf j).toNat)
          case atStart => exact ⟨0, Nat.zero_le _, rfl, K1.out⟩
          case round =>
            obtain ⟨J, hJ, rfl, hbb⟩ := hrel
            have KB := hid hbb
            clear hbb
            by_cases hj : J < Y
            · obtain ⟨A6, cap6, g6, hv6, hc6⟩ := OwnB.form KB.out.own
              have HCC := HC.out
              have HL9 := HLN.out
              have hcl := copyT_len l K J
              obtain ⟨rfl, e6⟩ := hc6 ((copyT l K J).length - K) (by omega)
              subst hv6
              have hJ258 : J < 258 := by omega
              have HK := hid (show copyT l K (J + 1) = copyT l K J ++ [(copyT l K J).getD ((copyT l K J).length - K) 0] from rfl)
              clear hc6
              generalize (copyT l K J).getD ((copyT l K J).length - K) 0 = t at e6 HK
              have hown := KB.out.own
              unfold OwnB at hown
              obtain ⟨Q, hQ⟩ : ∃ Q : Nat, Q = (copyT l K J).length - K := ⟨_, rfl⟩
              rw [← hQ] at e6
              have w0 : IntKind.i64.wrap (((copyT l K J).length : Int) - (K : Int)) = (Q : Int) := by rw [IntWalk.i64_in _ (by omega)]; omega
              have q1 : (Q : Int) < ((copyT l K J).length : Int) := by omega
              have hlc : (copyT l K J).length ≤ 66000 := by omega
              have HLC := hid hlc
              obtain ⟨d0, d1, d2⟩ := KB.out.bx.cells
              have hz9 := hid KB.out.bx.below.size
              clear hown hQ hlc HCC HL9 hcl
              go_wp2_with (at_builtin; refine wpList_append_own _ rfl _ _ 38 rfl w.heap.size 5 i0 (.int .u8 0) 1 1 und38 HI.out hz0 hz1 hz2 rfl (by decide) _ _ _ rfl (KB.out.own.alloc _) _ 1 1 [.int .u8 (t.toNat : Int)] rfl rfl (World.news_of_block (heap_alloc_new _ _)) (by simp [Value.oneCell']) (by have h9 := HLC.out; simp [maxLen]; omega) (by have h9 := HLC.out; omega) (by have h9 := hz9.out; simp only [World.alloc, Array.size_push]; omega) ?_; intro v' w8 hown8 hgrow8 _; have R := hid (KB.out.next hown8 hgrow8); clear hown8 hgrow8 d0 d1 d2)
              try (go_wp2_with fail)
              go_roundw
              case rel => exact ⟨J + 1, by omega, by go_num, by rw [HK.out]; exact R.out⟩
              case measure => simp [intOf]; omega
            · obtain rfl : J = Y := by omega
              go_wp2_with fail
              go_roundw
              case rel => exact ⟨k + 1, _, by omega, by go_num, HN.out, KB.out.own, KB.out.bx.below⟩
              case measure => simp [intOf]; omega
      · obtain rfl : k = n := by omega
        have HLe : Hid (l = L) := hid (by have h9 := HR.out.symm.trans HH.out; simpa using h9)
        have hcv := conv_own rfl HO.out
        obtain ⟨A6, cap6, g6, hv6, hc6⟩ := OwnB.form HO.out
        subst hv6
        clear hc6
        go_wp2_with fail
        go_ret2
        exact ⟨by rw [← HLe.out]; rfl, HB.out⟩
end Lz
end Go.Proofs.Ytlhgkemiakekoaa
