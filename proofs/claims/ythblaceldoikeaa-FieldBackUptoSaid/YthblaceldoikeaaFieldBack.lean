/- For any numbers, widths and texts that hold together at most 1048576 values and letters: what is written is read as it was, number by number, and text by text; of nil, nothing. -/
import Derived.Test.YthblaceldoikeaaFieldL
import Derived.Test.YthblaceldoikeaaOpen
import Derived.JoinedCond
namespace Go.Proofs.Ythblaceldoikeaa
set_option linter.unusedVariables false
open Go.ChangeShapes Go.WideShapes Go.ChangeAt Go.RowKit Go.Deep
open Go.ChangeMaps (open_string shut_string)
open Go.Proofs.Num
namespace FieldBack
open Fld

/-- A row of things of one cell: nil; or so many cells, each with its own reading. -/
theorem open_ones {H : Type} {enc : TypeId × Value → H} {P : Program} {w : World} {r : Reach} {b0 base : Nat} {sp : Nat → Bool} {held : Bool} {t e : TypeId} {v : Value} {d : DataW H} {p : List MemPlace}
    (ht : P.underlying t = some (.slice e)) (hC : P.cellsOf e = 1) (hv : Value.okWide P w r b0 t v) (h : DataW.Trod enc P w base sp held t v d p) :
    ∃ (A : Option Addr) (len cap b off : Nat) (V : Nat → Value), v = .slice A len cap ∧ len ≤ maxLen ∧ (0 < len → A = some ⟨b, off, none⟩ ∧ b < w.heap.size) ∧
      ∀ i, i < len → w.cell? ⟨b, off + i, none⟩ = some (V i) ∧ ∃ (x : DataW H) (q : List MemPlace) (m : Nat) (es ss : List (DataW H)), DataW.trod enc P w base sp held m e [V i] = some (x, q) ∧ d = .slice es ss ∧ x ∈ es := by
  obtain ⟨A, len, cap, rfl⟩ := okWide_slice ht hv
  obtain ⟨fuel, hf⟩ := h
  rcases open_slice1 ht hC hf with ⟨hcs, _⟩ | ⟨a, l, c, m, n, V, D, Pl, hcs, _, hl, hm, hmm, hd, hx⟩
  · simp [Value.cells] at hcs
    obtain ⟨rfl, rfl, rfl⟩ := hcs
    exact ⟨none, 0, 0, 0, 0, fun _ => undef, rfl, Nat.zero_le _, fun h => absurd h (by omega), fun i h => absurd h (by omega)⟩
  · simp [Value.cells] at hcs
    obtain ⟨rfl, rfl, rfl⟩ := hcs
    have hml : len ≤ m := by rw [hmm]; split <;> omega
    by_cases hz : len = 0
    · subst hz
      exact ⟨some a, 0, cap, 0, 0, fun _ => undef, rfl, Nat.zero_le _, fun h => absurd h (by omega), fun i h => absurd h (by omega)⟩
    · have c0 := (hx 0 (by omega)).1
      have hspot : a.spot = none := by
        have := World.cell?_spot c0
        simpa [Addr.add] using this
      obtain ⟨b, off, spot⟩ := a
      have hs2 : spot = none := hspot
      subst hs2
      refine ⟨some ⟨b, off, none⟩, len, cap, b, off, V, rfl, by omega, fun _ => ⟨rfl, ?_⟩, ?_⟩
      · have := World.block_lt_of_cell? _ _ c0
        simpa [offs] using this
      · intro i hi
        obtain ⟨c1, t1⟩ := hx i (by omega)
        rw [offs] at c1
        simp only [Prod.mk.injEq] at hd
        exact ⟨c1, D i, Pl i, n, _, _, t1, hd.1, List.mem_map.2 ⟨i, List.mem_range.2 hi, rfl⟩⟩

theorem bulk_mem {H : Type} {d : DataW H} : ∀ {l : List (DataW H)}, d ∈ l → Rows.uptoBulk d ≤ Rows.uptoBulkAll l := by
  intro l
  induction l with
  | nil => intro h; cases h
  | cons x l ih =>
    intro h
    simp only [Rows.uptoBulkAll]
    rcases List.mem_cons.1 h with rfl | h
    · omega
    · have := ih h; omega

theorem small_of {H : Type} {l : List (DataW H)} (h : Rows.uptoSmall H l = true) : Rows.uptoBulkAll l ≤ 1048576 := by
  unfold Rows.uptoSmall at h
  exact of_decide_eq_true h

theorem row_of {w : World} {A : Option Addr} {len b off : Nat} {V : Nat → Value} (ha : 0 < len → A = some ⟨b, off, none⟩ ∧ b < w.heap.size) (hc : ∀ i, i < len → w.cell? ⟨b, off + i, none⟩ = some (V i)) : Row w w.heap.size A len V :=
  fun h => ⟨b, off, (ha h).1, (ha h).2, hc⟩

def strOf : Value → ByteArray | .string s => s | _ => ByteArray.empty

set_option maxRecDepth 100000 in
theorem contract (H : Type) (enc : TypeId × Value → H) (W : World) (base : Nat) (args : Array Value) (ds gs : List (DataW H)) (before : List MemPlace)
    (hval : ∀ (j : Nat) t v, Try.f5.params[j]? = some t → args[j]? = some v → Value.okWide Try.prog W .any base t v)
    (hW : DataW.Whole enc Try.prog Try.f5.params.toList Rows.fieldBackSpec.vars false W args.toList ds gs before) (hk : Rows.uptoSmall H (ds ++ gs) = true) :
    Calls Try.prog 5 args W fun e W' => ∃ v, e = .returned v ∧ Rows.fieldBackSpec.post enc Try.prog Try.f5 false true false false W args v W' := by
  have hW' := hW
  obtain ⟨p, q, hA0, hV, rfl, hfz, hnd⟩ := hW
  have hA : DataW.TrodAll enc Try.prog W 0 (fun _ => true) true Try.f5.params.toList args.toList ds p := hA0
  rw [Try.params5] at hA hval
  obtain ⟨v0, v1, v2, d0, d1, d2, p0, p1, p2, hargs, rfl, rfl, h0, h1, h2⟩ := trodAll_three hA
  have hbulk := small_of hk
  obtain ⟨rfl, rfl⟩ := trodVars_none hV
  obtain rfl : args = #[v0, v1, v2] := by cases args; simp_all
  obtain ⟨A1, n1, c1, b1, o1, V1, rfl, m1, a1, e1⟩ := open_ones Try.underlying42 (by kernel_rfl) (hval 0 42 v0 rfl rfl) h0
  obtain ⟨A2, n2, c2, b2, o2, V2, rfl, m2, a2, e2⟩ := open_ones Try.underlying43 (by kernel_rfl) (hval 1 43 v1 rfl rfl) h1
  obtain ⟨A3, n3, c3, b3, o3, V3, rfl, m3, a3, e3⟩ := open_ones Try.underlying44 (by kernel_rfl) (hval 2 44 v2 rfl rfl) h2
  have r1 : ∀ i, i < n1 → V1 i = .int .u64 (((intOf (V1 i)).toNat : Nat) : Int) ∧ (intOf (V1 i)).toNat ≤ 18446744073709551615 := by
    intro i hi
    obtain ⟨_, x, q, m, es, ss, ht, _, _⟩ := e1 i hi
    obtain ⟨k, ek, _, wk⟩ := DataW.trod_int Try.underlying22 ht
    simp only [List.cons.injEq, and_true] at ek
    obtain ⟨u0, u1⟩ := u64_bd wk
    rw [ek]
    simp only [intOf]
    exact ⟨val_int (by omega), by omega⟩
  have r2 : ∀ i, i < n2 → V2 i = .int .i64 (intOf (V2 i)) ∧ -9223372036854775808 ≤ intOf (V2 i) ∧ intOf (V2 i) ≤ 9223372036854775807 := by
    intro i hi
    obtain ⟨_, x, q, m, es, ss, ht, _, _⟩ := e2 i hi
    obtain ⟨k, ek, _, wk⟩ := DataW.trod_int Try.underlying3 ht
    simp only [List.cons.injEq, and_true] at ek
    obtain ⟨u0, u1⟩ := i64_bd wk
    rw [ek]
    exact ⟨rfl, u0, u1⟩
  have r3 : ∀ i, i < n3 → V3 i = .string (strOf (V3 i)) ∧ (strOf (V3 i)).size ≤ 1048576 := by
    intro i hi
    obtain ⟨_, x, q, m, es, ss, ht, hd, hx⟩ := e3 i hi
    obtain ⟨s, es', hxx, hs⟩ := DataW.trod_string Try.underlying9 ht
    simp only [List.cons.injEq, and_true] at es'
    simp only [Prod.mk.injEq] at hxx
    rw [es']
    refine ⟨rfl, ?_⟩
    have h1 := bulk_mem hx
    rw [hxx.1] at h1
    rw [hd] at hbulk
    simp only [Rows.uptoBulkAll, Rows.uptoBulk, List.append_nil] at hbulk h1
    have h3 : s.data.toList.length = s.size := by simp
    show s.size ≤ _
    omega
  refine (backs A1 A2 A3 n1 c1 n2 c2 n3 c3 (fun i => (intOf (V1 i)).toNat) (fun i => intOf (V2 i)) (fun i => strOf (V3 i)) W
    (row_of a1 fun i hi => by rw [(e1 i hi).1]; exact congrArg some (r1 i hi).1) (row_of a2 fun i hi => by rw [(e2 i hi).1]; exact congrArg some (r2 i hi).1) (row_of a3 fun i hi => by rw [(e3 i hi).1]; exact congrArg some (r3 i hi).1)
    m1 m2 m3 (fun i hi => (r1 i hi).2) (fun i hi => (r2 i hi).2) (fun i hi => (r3 i hi).2)).mono fun e W' ⟨he, bel⟩ => ?_
  subst he
  exact ⟨_, rfl, law_post Try.f5 Rows.fieldBackSpec rfl (by kernel_rfl) rfl hW' (fun _ => ⟨rfl, rfl, rfl⟩) bel⟩

set_option maxRecDepth 100000 in
theorem lifted (os : Os) (started : os.Started) (H : Type) (enc : TypeId × Value → H) (F : Stop.Interp) :
    ReturnsInHanded {} Try.checked os 5 .any ((Rows.OpenSpec.upto Rows.fieldBackSpec).pre6 enc Try.prog Try.f5 Rows.fieldBackUptoRow.domain false) (((Rows.OpenSpec.upto Rows.fieldBackSpec).at F).post enc Try.prog Try.f5 false true false false) := by
  refine returnsInHanded_of_cond (C := Try.checked) (s := Rows.OpenSpec.upto Rows.fieldBackSpec) (k := Rows.uptoSmall) rfl own started (by kernel_rfl) Try.func5
    (OpenSpec.witness (enc := enc) (C := Try.checked) (s := Rows.OpenSpec.upto Rows.fieldBackSpec) (k := Rows.uptoSmall) rfl false ⟨#[], #[.slice none 0 0, .slice none 0 0, .slice none 0 0], []⟩ 8 (by kernel_rfl) (by kernel_rfl) (by kernel_rfl)
      (x := ([.nil, .nil, .nil], [], [])) (by kernel_rfl) rfl (by kernel_rfl)) ?_
  intro W base args ds gs before hval hW _ hk _
  exact contract H enc W base args ds gs before hval hW hk

theorem proved : Rows.FieldBackUptoSaid :=
  OpenClaim.holds_of_cond 5 Try.f5 rfl rfl rfl rfl rfl rfl rfl ⟨rfl, rfl, rfl, rfl, rfl⟩ rfl rfl rfl rfl rfl (by kernel_rfl) Try.func5 (by kernel_rfl)
    (of_decide_eq_true (by kernel_rfl)) (by unfold Func.isWrapper; first | (rw [if_pos (by decide +kernel)]; kernel_rfl) | (rw [if_neg (by decide +kernel)]; exact ⟨rfl, rfl⟩))
    (fun os started H enc _ F => lifted os started H enc F)
end FieldBack
end Go.Proofs.Ythblaceldoikeaa
