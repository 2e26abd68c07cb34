/- INFLATE: what the program holds as it reads: a reader, the bytes so far, their most; bits, symbols, room. -/
import Derived.Test.YtlfohihmkfphhaaJnfS
import Derived.Test.YtlfohihmkfphhaaHrF
import Derived.Laws.IdiomStrings
import Derived.Lib.AppendStr
namespace Go.Proofs.Ytlfohihmkfphhaa
set_option linter.unusedVariables false
open Go.RowKit
open Go.Proofs.Huf
attribute [local go_sem ↓] Go.wp_at_zero Go.wp_at_succ
namespace Inf
open Huff
def byteCells (l : List UInt8) : List Value := l.map fun b => Value.int .u8 (b.toNat : Int)
theorem byteCells_append (l m : List UInt8) : byteCells (l ++ m) = byteCells l ++ byteCells m := by unfold byteCells; simp
theorem und63 : Try.prog.underlying 63 = some (.slice 5) := by kernel_rfl
theorem info5 : (Try.prog.info? 5).map (fun i => (i.zero, i.size, i.bytes)) = some (some (.int .u8 0), 1, 1) := by kernel_rfl
def OwnB (w : World) (B : Nat) (v : Value) (l : List UInt8) : Prop := w.ownsRow B 5 1 v l.length (byteCells l)
theorem OwnB.form {w : World} {B : Nat} {v : Value} {o : List UInt8} (h : OwnB w B v o) :
    ∃ (A : Option Addr) (cap g : Nat), v = .slice A o.length cap ∧ ∀ i, i < o.length → A = some ⟨g, 0, none⟩ ∧ w.cell? ⟨g, i, none⟩ = some (.int .u8 ((o.getD i 0).toNat : Int)) := by
  rcases h.2 with ⟨rfl, h0⟩ | ⟨g, cap, cur, rfl, _⟩
  · exact ⟨none, 0, 0, by rw [h0], fun i hi => absurd hi (by omega)⟩
  · refine ⟨_, cap, g, rfl, fun i hi => ⟨rfl, ?_⟩⟩
    rw [World.ownsRow.cellAt h i (by omega)]
    simp [byteCells, hi]
/-- The types of what may change as the program reads: bytes, its state, its reader. -/
abbrev TP : List Nat := [5, 65, 71]
/-- The types of what may change as the document reads. -/
abbrev TR : List Nat := [46, 44]
/-- What stays: all below a block; and all that is of other types. -/
structure Kp (T : List Nat) (B : Nat) (w w' : World) : Prop where
  below : Below B w w'
  keep : ∀ (k : Nat) (cs : Array Value) (t : TypeId) (r : Nat × Nat), w.heap[k]? = some (.cells cs t r) → t ∉ T → w'.heap[k]? = some (.cells cs t r)
  rdr : ∀ (k : Nat) (cs : Array Value) (r : Nat × Nat), w.heap[k]? = some (.cells cs 71 r) → cs.all (·.oneCell') = true → ∃ cs', w'.heap[k]? = some (.cells cs' 71 r) ∧ cs'.size = cs.size ∧ cs'.all (·.oneCell') = true
theorem Kp.refl (T : List Nat) (B : Nat) (w : World) : Kp T B w w := ⟨Below.refl _ _, fun _ _ _ _ h _ => h, fun _ cs _ h ho => ⟨cs, h, rfl, ho⟩⟩
theorem Kp.trans {T : List Nat} {B : Nat} {a b c : World} (h : Kp T B a b) (k : Kp T B b c) : Kp T B a c := ⟨h.below.trans k.below, fun i cs t r hi ht => k.keep i cs t r (h.keep i cs t r hi ht) ht, fun i cs r hi ho => by
  obtain ⟨c1, h1, e1, o1⟩ := h.rdr i cs r hi ho
  obtain ⟨c2, h2, e2, o2⟩ := k.rdr i c1 r h1 o1
  exact ⟨c2, h2, e2.trans e1, o2⟩⟩
theorem Kp.of_below {T : List Nat} {B : Nat} {w w' : World} (h : Below w.heap.size w w') (hB : B ≤ w.heap.size) : Kp T B w w' :=
  ⟨h.mono hB, fun k cs t r hk _ => (h.block k (Array.getElem?_eq_some_iff.1 hk).1).trans hk, fun k cs r hk ho => ⟨cs, (h.block k (Array.getElem?_eq_some_iff.1 hk).1).trans hk, rfl, ho⟩⟩
theorem Kp.of_only {T : List Nat} {B G : Nat} {w w' : World} {c0 : Array Value} {t0 : TypeId} {r0 : Nat × Nat} (h : Only G w w') (hG : w.heap[G]? = some (.cells c0 t0 r0)) (ht : t0 ∈ T) (hB : B ≤ G) (hx : t0 ≠ 71 ∨ ∃ cs', w'.heap[G]? = some (.cells cs' t0 r0) ∧ cs'.size = c0.size ∧ cs'.all (·.oneCell') = true := by exact .inl (by decide)) : Kp T B w w' := by
  refine ⟨⟨h.os, h.tape, h.output, h.size, fun k hk => h.block k ?_ (by omega)⟩, fun k cs t r hk hn => (h.block k (Array.getElem?_eq_some_iff.1 hk).1 ?_).trans hk, fun k cs r hk ho => ?_⟩
  · have := (Array.getElem?_eq_some_iff.1 hG).1
    omega
  · rintro rfl
    rw [hG] at hk
    cases hk
    exact hn ht
  · by_cases hkG : k = G
    · subst hkG
      rw [hG] at hk
      cases hk
      rcases hx with hx | ⟨cs', h1, h2, h3⟩
      · exact absurd rfl hx
      · exact ⟨cs', h1, h2, h3⟩
    · exact ⟨cs, (h.block k (Array.getElem?_eq_some_iff.1 hk).1 hkG).trans hk, rfl, ho⟩
theorem Kp.alloc {T : List Nat} {B : Nat} {a w : World} (h : Kp T B a w) (hB : B ≤ w.heap.size) (o : Obj) : Kp T B a (w.alloc o) := h.trans (.of_below ((Below.refl _ _).alloc (Nat.le_refl _) o) hB)
theorem Kp.drewN {T : List Nat} {B : Nat} {a w : World} (h : Kp T B a w) (n : Nat) : Kp T B a (w.drewN n) := h.trans ⟨⟨rfl, rfl, rfl, Nat.le_refl _, fun _ _ => rfl⟩, fun _ _ _ _ h _ => h, fun _ cs _ h ho => ⟨cs, h, rfl, ho⟩⟩
theorem Kp.size {T : List Nat} {B : Nat} {a w : World} (h : Kp T B a w) : a.heap.size ≤ w.heap.size := h.below.size
/-- The program's state. -/
structure St (w : World) (S G B : Nat) (s : ByteArray) (p : Nat) (v : Value) (out : List UInt8) (most : Nat) : Prop where
  st : w.heap[S]? = some (.cells #[.pointer (some ⟨G, 0, none⟩), v, .int .i64 (most : Int)] 65 (0, 0))
  rd : Rd w G s p
  own : OwnB w B v out
  lowS : B ≤ S
  lowG : B ≤ G
section
variable {w w' : World} {S G B : Nat} {s : ByteArray} {p : Nat} {v : Value} {out : List UInt8} {most : Nat}
theorem St.c0 (h : St w S G B s p v out most) : w.cell? ⟨S, 0, none⟩ = some (.pointer (some ⟨G, 0, none⟩)) := by rw [cell_of_row w S 0 _ 65 (0, 0) h.st]; rfl
theorem St.c1 (h : St w S G B s p v out most) : w.cell? ⟨S, 1, none⟩ = some v := by rw [cell_of_row w S 1 _ 65 (0, 0) h.st]; rfl
theorem St.c2 (h : St w S G B s p v out most) : w.cell? ⟨S, 2, none⟩ = some (.int .i64 (most : Int)) := by rw [cell_of_row w S 2 _ 65 (0, 0) h.st]; rfl
theorem St.free (h : St w S G B s p v out most) (i : Nat) : w.frozen? ⟨S, i, none⟩ = false := frozen_of_row w S i _ 65 h.st
theorem St.ne (h : St w S G B s p v out most) : S ≠ G := by
  intro e
  have h1 := h.st
  have h2 : w.heap[G]? = _ := h.rd
  rw [e, h2] at h1
  simp at h1
theorem St.size (h : St w S G B s p v out most) : B ≤ w.heap.size := by
  have := (Array.getElem?_eq_some_iff.1 h.st).1
  have := h.lowS
  omega
theorem own_only {G : Nat} (ho : OwnB w B v out) (h : Only G w w') {c0 : Array Value} {t0 : TypeId} {r0 : Nat × Nat} (hG : w.heap[G]? = some (.cells c0 t0 r0)) (ht : t0 ≠ 5) : OwnB w' B v out := by
  refine ⟨ho.1, ?_⟩
  rcases ho.2 with hn | ⟨g, cap, cur, e, hb, hg, h3⟩
  · exact .inl hn
  · refine .inr ⟨g, cap, cur, e, hb, ?_, h3⟩
    refine (h.block g (Array.getElem?_eq_some_iff.1 hg).1 ?_).trans hg
    rintro rfl
    rw [hG] at hg
    cases hg
    exact ht rfl
theorem own_grow (ho : OwnB w B v out) (h : Below w.heap.size w w') : OwnB w' B v out := by
  refine ⟨ho.1, ?_⟩
  rcases ho.2 with hn | ⟨g, cap, cur, e, hb, hg, h3⟩
  · exact .inl hn
  · exact .inr ⟨g, cap, cur, e, hb, (h.block g (Array.getElem?_eq_some_iff.1 hg).1).trans hg, h3⟩
theorem St.grow (h : St w S G B s p v out most) (b : Below w.heap.size w w') : St w' S G B s p v out most :=
  ⟨(b.block S (Array.getElem?_eq_some_iff.1 h.st).1).trans h.st, (b.block G h.rd.lt).trans h.rd, own_grow h.own b, h.lowS, h.lowG⟩
theorem St.left (h : St w S G B s p v out most) {q : Nat} (l : Huff.Left w G s q w') : St w' S G B s q v out most :=
  ⟨(l.only.block S (Array.getElem?_eq_some_iff.1 h.st).1 h.ne).trans h.st, l.rd, own_only h.own l.only h.rd (by decide), h.lowS, h.lowG⟩
theorem St.kp (h : St w S G B s p v out most) (o : Only G w w') (hr : ∃ cs', w'.heap[G]? = some (.cells cs' 71 (0, 0)) ∧ cs'.size = 3 ∧ cs'.all (·.oneCell') = true) : Kp TP B w w' := .of_only o h.rd (by decide) h.lowG (.inr hr)
theorem St.lt (h : St w S G B s p v out most) : S < w.heap.size := (Array.getElem?_eq_some_iff.1 h.st).1
end
/-- What is thrown. -/
def tyOf (e : Nat) : TypeId := if e = 3 then 85 else if e = 2 then 86 else 87
def thrown (e : Nat) : Ending := .panicked [{ v := .iface (tyOf e) (.agg #[]), recovered := false }]
/-- What becomes of a step: a value, and what then holds; or something is thrown. -/
def Did {α : Type} (r : Res α) (K : α → Nat → Value → World → Prop) (e : Ending) (w' : World) : Prop := match r with
  | .ok a q => ∃ v, e = .returned v ∧ K a q v w'
  | .bad f => e = thrown f
theorem Did.bad {α : Type} {f : Nat} {K : α → Nat → Value → World → Prop} {e : Ending} {w' : World} (h : Did (.bad f : Res α) K e w') : e = .panicked [{ v := .iface (tyOf f) (.agg #[]), recovered := false }] := h
/-- So many bits. -/
abbrev numK (S G B : Nat) (s : ByteArray) (v : Value) (out : List UInt8) (most : Nat) (a q : Nat) (x : Value) (w' : World) : Prop := x = .int .i64 (a : Int) ∧ St w' S G B s q v out most
set_option maxRecDepth 100000 in
set_option maxHeartbeats 1000000 in
theorem num (S G B : Nat) (s : ByteArray) (p n : Nat) (v : Value) (out : List UInt8) (most : Nat) (w : World) (h : St w S G B s p v out most) (hs : s.size ≤ 1048576) (hn : n ≤ 16) (hp : p ≤ 8 * s.size) :
    Calls Try.prog 63 #[.pointer (some ⟨S, 0, none⟩), .int .i64 (n : Int)] w fun e w' => Did (take n (numS s) (8 * s.size) p) (numK S G B s v out most) e w' ∧ Kp TP B w w' := by
  have HT := hid h
  have c0 := h.c0
  by_cases hl : p + n ≤ 8 * s.size
  · rw [take_ok hl]
    have HNB := hid (numS_byte s)
    go_enter Try.func63, Try.ntmps63
    go_wp2_with fail
    have hlt : numS s / 2 ^ p % 2 ^ n < 65536 := by
      have h1 : numS s / 2 ^ p % 2 ^ n < 2 ^ n := Nat.mod_lt _ (Nat.pow_pos (by omega))
      have h2 := Nat.pow_le_pow_right (show 0 < 2 by decide) hn
      omega
    refine (rbitsP G s p n (numS s) _ HT.out.rd hs (by omega) hl HNB.out).mono ?_
    rintro e w1 ⟨rfl, l1⟩
    have H1 := hid (HT.out.left l1)
    have K1 := hid (HT.out.kp l1.only ⟨_, l1.rd, rfl, by simp [Value.oneCell']⟩)
    clear l1 c0
    have c0 := H1.out.c0
    obtain ⟨a, ha⟩ : ∃ a, numS s / 2 ^ p % 2 ^ n = a := ⟨_, rfl⟩
    rw [ha] at hlt ⊢
    have HA := hid ha
    clear ha
    have e1 : IntKind.i64.wrap (a : Int) = (a : Int) := IntWalk.i64_in _ (by omega)
    go_wp2_with fail
    refine (rfine G s _ _ H1.out.rd).mono ?_
    rintro e w2 ⟨rfl, rfl⟩
    go_wp2_with fail
    go_ret
    exact ⟨⟨_, rfl, val_int (by rw [HA.out]), H1.out⟩, K1.out⟩
  · rw [take_bad hl]
    go_enter Try.func63, Try.ntmps63
    go_wp2_with fail
    refine (rbitsB G s p n _ HT.out.rd hs (by omega) hp hl).mono ?_
    rintro e w1 ⟨rfl, b1, o1⟩
    have HB := hid b1
    have K1 := hid (HT.out.kp o1 ⟨_, b1, rfl, by simp [Value.oneCell']⟩)
    have c0 : w1.cell? ⟨S, 0, none⟩ = some (.pointer (some ⟨G, 0, none⟩)) := by
      rw [cell_of_row w1 S 0 _ 65 (0, 0) ((o1.block S HT.out.lt HT.out.ne).trans HT.out.st)]; rfl
    clear b1 o1
    go_wp2_with fail
    refine (rfine0 G s _ _ HB.out).mono ?_
    rintro e w2 ⟨rfl, rfl⟩
    go_wp2_with fail
    exact ⟨rfl, rfl, K1.out⟩
end Inf
end Go.Proofs.Ytlfohihmkfphhaa
