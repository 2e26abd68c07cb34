/- EndingReads: the program's search from behind. -/
import Derived.Test.YthgjijjalfhhcaaEnF
import Derived.Test.YthgjijjalfhhcaaEnO
namespace Go.Proofs.Ythgjijjalfhhcaa
set_option linter.unusedVariables false
open Go.RowKit Go.Shelf
open Go.Proofs.Num
namespace Edg
open Fld

theorem places (s : ByteArray) (w : World) : Calls Try.prog 85 #[.string s] w fun e w' => e = .returned (.func (.func 99) #[] #[.pointer (some ⟨w.heap.size, 0, none⟩)]) ∧ w' = w.alloc (.cells #[.string s] 9) := by
  go_enter Try.func85, Try.ntmps85
  go_wp2
  go_ret
  exact ⟨rfl, rfl⟩

/-- The boxes of the search: the text, the end, the place, whether. -/
structure Hs (W : World) (B : Nat) (s : ByteArray) (a b c d m : Int) (t : Bool) : Prop where
  h0 : W.heap[B]? = some (.cells #[.string s] 9 (0, 0))
  h1 : W.heap[B + 1]? = some (.cells #[.int .i64 a, .int .i64 b, .int .i64 c, .int .i64 d] 72 (0, 0))
  h2 : W.heap[B + 1 + 1]? = some (.cells #[.int .i64 m] 3 (0, 0))
  h3 : W.heap[B + 1 + 1 + 1]? = some (.cells #[.bool t] 4 (0, 0))

theorem row_kept {W W' : World} {row : Option Nat} {k : Nat} {cs : Array Value} {T : TypeId} (h : W.heap[k]? = some (.cells cs T (0, 0))) (hg : W.grownBy W' row) (hr : ∀ r, row = some r → ∃ o : Obj, W.heap[r]? = some o ∧ o.isCells = false) : W'.heap[k]? = some (.cells cs T (0, 0)) := by
  rw [hg.block k (Array.getElem?_eq_some_iff.1 h).1 ?_]
  · exact h
  · intro e
    obtain ⟨o, h1, h2⟩ := hr k e.symm
    rw [h] at h1
    cases h1
    cases h2
section
variable {W W' : World} {B : Nat} {s : ByteArray} {a b c d m : Int} {t : Bool}
theorem Hs.kept {row : Option Nat} (h : Hs W B s a b c d m t) (hg : W.grownBy W' row) (hr : ∀ r, row = some r → ∃ o : Obj, W.heap[r]? = some o ∧ o.isCells = false) : Hs W' B s a b c d m t :=
  ⟨row_kept h.h0 hg hr, row_kept h.h1 hg hr, row_kept h.h2 hg hr, row_kept h.h3 hg hr⟩
theorem Hs.step (h : Hs W B s a b c d m t) (hb : Below W.heap.size W W') : Hs W' B s a b c d m t :=
  ⟨(hb.block _ (Array.getElem?_eq_some_iff.1 h.h0).1).trans h.h0, (hb.block _ (Array.getElem?_eq_some_iff.1 h.h1).1).trans h.h1, (hb.block _ (Array.getElem?_eq_some_iff.1 h.h2).1).trans h.h2, (hb.block _ (Array.getElem?_eq_some_iff.1 h.h3).1).trans h.h3⟩
/-- The world behind six stores. -/
def six (W : World) (B : Nat) (a b c d m : Value) (t : Value) : World :=
  (((((W.setCell ⟨B + 1, 0, none⟩ a).setCell ⟨B + 1, 1, none⟩ b).setCell ⟨B + 1, 2, none⟩ c).setCell ⟨B + 1, 3, none⟩ d).setCell ⟨B + 1 + 1, 0, none⟩ m).setCell ⟨B + 1 + 1 + 1, 0, none⟩ t
theorem Hs.put (h : Hs W B s a b c d m t) (a' b' c' d' m' : Int) (t' : Bool) : Hs (six W B (.int .i64 a') (.int .i64 b') (.int .i64 c') (.int .i64 d') (.int .i64 m') (.bool t')) B s a' b' c' d' m' t' := by
  have o : ∀ (V : World) (k g i : Nat) (v : Value), k ≠ g → (V.setCell ⟨g, i, none⟩ v).heap[k]? = V.heap[k]? := fun V k g i v hn => heap_setCell_other V ⟨g, i, none⟩ k v hn
  unfold six
  refine ⟨?_, ?_, ?_, ?_⟩
  · rw [o _ _ _ _ _ (by omega), o _ _ _ _ _ (by omega), o _ _ _ _ _ (by omega), o _ _ _ _ _ (by omega), o _ _ _ _ _ (by omega), o _ _ _ _ _ (by omega)]
    exact h.h0
  · rw [o _ _ _ _ _ (by omega), o _ _ _ _ _ (by omega)]
    exact row4 h.h1 _ _ _ _
  · rw [o _ _ _ _ _ (by omega)]
    refine heap_setCell_same _ _ 0 #[.int .i64 m] 3 _ ?_
    rw [o _ _ _ _ _ (by omega), o _ _ _ _ _ (by omega), o _ _ _ _ _ (by omega), o _ _ _ _ _ (by omega)]
    exact h.h2
  · refine heap_setCell_same _ _ 0 #[.bool t] 4 _ ?_
    rw [o _ _ _ _ _ (by omega), o _ _ _ _ _ (by omega), o _ _ _ _ _ (by omega), o _ _ _ _ _ (by omega), o _ _ _ _ _ (by omega)]
    exact h.h3
theorem six_keeps (W : World) (B : Nat) (a b c d m t : Value) : KeepsOthers W (six W B a b c d m t) :=
  (((((KeepsOthers.setCell _ _ _).trans (KeepsOthers.setCell _ _ _)).trans (KeepsOthers.setCell _ _ _)).trans (KeepsOthers.setCell _ _ _)).trans (KeepsOthers.setCell _ _ _)).trans (KeepsOthers.setCell _ _ _)
theorem six_below {w W : World} {n B : Nat} (h : Below n w W) (hB : n ≤ B) (a b c d m t : Value) : Below n w (six W B a b c d m t) :=
  (((((h.setCell (p := ⟨B + 1, 0, none⟩) (by show n ≤ B + 1; omega) _).setCell (p := ⟨B + 1, 1, none⟩) (by show n ≤ B + 1; omega) _).setCell (p := ⟨B + 1, 2, none⟩) (by show n ≤ B + 1; omega) _).setCell (p := ⟨B + 1, 3, none⟩) (by show n ≤ B + 1; omega) _).setCell (p := ⟨B + 1 + 1, 0, none⟩) (by show n ≤ B + 1 + 1; omega) _).setCell (p := ⟨B + 1 + 1 + 1, 0, none⟩) (by show n ≤ B + 1 + 1 + 1; omega) _
theorem keeps_below (hb : Below W.heap.size W W') : KeepsOthers W W' := ⟨hb.size, fun k o hk _ => (hb.block k (Array.getElem?_eq_some_iff.1 hk).1).trans hk⟩
end
theorem hs_new (w : World) (s : ByteArray) : Hs (((((w.alloc (.cells #[.string s] 9)).alloc (.cells #[.int .i64 0, .int .i64 0, .int .i64 0, .int .i64 0] 72)).alloc (.cells #[.int .i64 0] 3)).alloc (.cells #[.bool false] 4)).alloc (.cells #[.string s] 9)) w.heap.size s 0 0 0 0 0 false := by
  have n1 := heap_alloc_new (w.alloc (.cells #[.string s] 9)) (.cells #[.int .i64 0, .int .i64 0, .int .i64 0, .int .i64 0] 72)
  have n2 := heap_alloc_new ((w.alloc (.cells #[.string s] 9)).alloc (.cells #[.int .i64 0, .int .i64 0, .int .i64 0, .int .i64 0] 72)) (.cells #[.int .i64 0] 3)
  have n3 := heap_alloc_new (((w.alloc (.cells #[.string s] 9)).alloc (.cells #[.int .i64 0, .int .i64 0, .int .i64 0, .int .i64 0] 72)).alloc (.cells #[.int .i64 0] 3)) (.cells #[.bool false] 4)
  simp only [World.size_alloc] at n1 n2 n3
  refine ⟨?_, ?_, ?_, ?_⟩
  · rw [Below.heap_alloc _ _ _ (by simp only [World.size_alloc]; omega), Below.heap_alloc _ _ _ (by simp only [World.size_alloc]; omega), Below.heap_alloc _ _ _ (by simp only [World.size_alloc]; omega), Below.heap_alloc _ _ _ (by simp only [World.size_alloc]; omega)]
    exact heap_alloc_new _ _
  · rw [Below.heap_alloc _ _ _ (by simp only [World.size_alloc]; omega), Below.heap_alloc _ _ _ (by simp only [World.size_alloc]; omega), Below.heap_alloc _ _ _ (by simp only [World.size_alloc]; omega)]
    exact n1
  · rw [Below.heap_alloc _ _ _ (by simp only [World.size_alloc]; omega), Below.heap_alloc _ _ _ (by simp only [World.size_alloc]; omega)]
    exact n2
  · rw [Below.heap_alloc _ _ _ (by simp only [World.size_alloc]; omega)]
    exact n3
theorem box_new (w : World) (s : ByteArray) : (((((w.alloc (.cells #[.string s] 9)).alloc (.cells #[.int .i64 0, .int .i64 0, .int .i64 0, .int .i64 0] 72)).alloc (.cells #[.int .i64 0] 3)).alloc (.cells #[.bool false] 4)).alloc (.cells #[.string s] 9)).cell? ⟨w.heap.size + 1 + 1 + 1 + 1, 0, none⟩ = some (.string s) := by
  have n3 := heap_alloc_new ((((w.alloc (.cells #[.string s] 9)).alloc (.cells #[.int .i64 0, .int .i64 0, .int .i64 0, .int .i64 0] 72)).alloc (.cells #[.int .i64 0] 3)).alloc (.cells #[.bool false] 4)) (.cells #[.string s] 9)
  simp only [World.size_alloc] at n3
  rw [cell_of_row _ _ _ _ _ _ n3]; rfl

theorem findN_none {s : ByteArray} : ∀ k, (∀ y ∈ down k, okT (s.extract y s.size) = false) → findN s k = none := by
  intro k
  induction k with
  | zero => intro _; rfl
  | succ k ih =>
    intro h
    rw [findN_no (h k (by simp [down])), ih (fun y hy => h y (by simp [down, hy]))]
theorem findN_some {s : ByteArray} {m : Nat} : ∀ (k : Nat) (q : List Nat), q ++ [m] <+: down k → (∀ y ∈ q, okT (s.extract y s.size) = false) → okT (s.extract m s.size) = true → findN s k = some m := by
  intro k
  induction k with
  | zero =>
    intro q h _ _
    have := h.length_le
    simp [down] at this
  | succ k ih =>
    intro q h hq hm
    cases q with
    | nil =>
      have : m = k := by
        obtain ⟨r, hr⟩ := h
        simp [down] at hr
        exact hr.1
      subst this
      exact findN_yes hm
    | cons y q =>
      obtain ⟨r, hr⟩ := h
      simp only [down, List.cons_append, List.cons.injEq] at hr
      obtain ⟨rfl, hr⟩ := hr
      rw [findN_no (hq y (by simp))]
      exact ih q ⟨r, hr⟩ (fun z hz => hq z (by simp [hz])) hm

theorem results_find (tmps : Array Value) (V : World) (B : Nat) (s : ByteArray) (a b c d m : Int) (t : Bool) (hp : tmps.getD 2 undef = .pointer (some ⟨B + 1, 0, none⟩)) (hq : tmps.getD 3 undef = .pointer (some ⟨B + 1 + 1, 0, none⟩))
    (hr : tmps.getD 4 undef = .pointer (some ⟨B + 1 + 1 + 1, 0, none⟩)) (hH : Hs V B s a b c d m t) : (results Try.f51 tmps).run Try.prog V = .ok (.tuple #[endV a b c d, .int .i64 m, .bool t]) V := by
  have hp' : tmps[2]?.getD undef = .pointer (some ⟨B + 1, 0, none⟩) := by simpa using hp
  have hq' : tmps[3]?.getD undef = .pointer (some ⟨B + 1 + 1, 0, none⟩) := by simpa using hq
  have hr' : tmps[4]?.getD undef = .pointer (some ⟨B + 1 + 1 + 1, 0, none⟩) := by simpa using hr
  have c2 : V.cell? ⟨B + 1 + 1, 0, none⟩ = some (.int .i64 m) := by rw [cell_of_row _ _ _ _ _ _ hH.h2]; rfl
  have c3 : V.cell? ⟨B + 1 + 1 + 1, 0, none⟩ = some (.bool t) := by rw [cell_of_row _ _ _ _ _ _ hH.h3]; rfl
  obtain ⟨r0, r1, r2, r3⟩ := four_cells (Below.refl _ _) hH.h1
  simp [results, Try.results51, go_sem, hp', hq', hr', r0, r1, r2, r3, c2, c3]

attribute [local go_sem] Oper.semAt_some

set_option maxRecDepth 100000 in
set_option maxHeartbeats 2000000 in
theorem find (s : ByteArray) (w : World) (hs : s.size ≤ 400) :
    Calls Try.prog 51 #[.string s] w fun e w' => e = .returned (toldF s (findN s (s.size - 21))) ∧ Below w.heap.size w w' := by
  refine (callsIn_wide (n := 8)).1 ?_
  refine callsIn_of_wp_marks Try.func51 rfl trivial ?_ rfl
  simp only [Try.ntmps51, List.size_toArray, List.length_cons, List.length_nil, Nat.reduceAdd, Nat.reduceSub, Array.replicate_succ, Array.replicate_zero, List.push_toArray, List.append_toArray, List.nil_append, List.cons_append]
  have HS := hid hs
  clear hs
  gi_wp2
  refine ⟨trivial, (callsIn_wide.2 (places s _)).mono ?_⟩
  rintro e w1 ⟨rfl, rfl⟩
  gi_wp2
  have HN := hid (hs_new w s)
  have HX := hid (box_new w s)
  have HB := hid (show Below w.heap.size w (((((w.alloc (.cells #[.string s] 9)).alloc (.cells #[.int .i64 0, .int .i64 0, .int .i64 0, .int .i64 0] 72)).alloc (.cells #[.int .i64 0] 3)).alloc (.cells #[.bool false] 4)).alloc (.cells #[.string s] 9)) from
    (((((Below.refl _ w).alloc (Nat.le_refl _) _).alloc (by simp) _).alloc (by simp; omega) _).alloc (by simp; omega) _).alloc (by simp; omega) _)
  have HZ := hid (show (((((w.alloc (.cells #[.string s] 9)).alloc (.cells #[.int .i64 0, .int .i64 0, .int .i64 0, .int .i64 0] 72)).alloc (.cells #[.int .i64 0] 3)).alloc (.cells #[.bool false] 4)).alloc (.cells #[.string s] 9)).heap.size = w.heap.size + 5 by simp)
  obtain ⟨W0, hW0⟩ : ∃ W0, ((((w.alloc (.cells #[.string s] 9)).alloc (.cells #[.int .i64 0, .int .i64 0, .int .i64 0, .int .i64 0] 72)).alloc (.cells #[.int .i64 0] 3)).alloc (.cells #[.bool false] 4)).alloc (.cells #[.string s] 9) = W0 := ⟨_, rfl⟩
  rw [hW0] at HN HX HB HZ ⊢
  clear hW0
  refine wpIn_rangeFunc_ownF rfl (by omega) (gf := 99) (lb := #[.pointer (some ⟨w.heap.size + 1 + 1 + 1 + 1, 0, none⟩)]) rfl trivial (enters_of Try.func99 (by kernel_rfl) rfl)
    (places_stops Fence.wide (8 - 1) trivial rfl (by omega) (w.heap.size + 1 + 1 + 1 + 1) w.heap.size s HS.out W0 (by have := HZ.out; omega) HX.out) belowK_t (belowK_b (by have := HZ.out; omega)) (Below.refl _ _) (fun _ => rfl)
    (fun pre W => (Hs W w.heap.size s 0 0 0 0 0 false ∧ ∀ y ∈ pre, okT (s.extract y s.size) = false) ∧ Below w.heap.size w W)
    (fun c pre W => (c = .ret ∧ ∃ (q : List Nat) (m : Nat) (a b c d : Int), pre = q ++ [m] ∧ (∀ y ∈ q, okT (s.extract y s.size) = false) ∧ okT (s.extract m s.size) = true ∧ valT (s.extract m s.size) = endV a b c d ∧ Hs W w.heap.size s a b c d (m : Int) true) ∧ Below w.heap.size w W)
    (OwnFrom.and (Own.from (fun s' A B row hs hg hr => ⟨hs.1.kept hg hr, hs.2⟩) _) (ownFrom_below (Nat.le_refl _) (by have := HZ.out; omega)))
    (fun c => OwnFrom.and (Own.from (fun s' A B row hs hg hr => by
      obtain ⟨h1, q, m, a, b, c, d, h2, h3, h4, h5, h6⟩ := hs
      exact ⟨h1, q, m, a, b, c, d, h2, h3, h4, h5, h6.kept hg hr⟩) _) (ownFrom_below (Nat.le_refl _) (by have := HZ.out; omega)))
    ⟨⟨HN.out, fun y hy => by cases hy⟩, HB.out⟩
    (fun x => { tmps := #[.string s, .pointer (some ⟨w.heap.size, 0, none⟩), .pointer (some ⟨w.heap.size + 1, 0, none⟩), .pointer (some ⟨w.heap.size + 1 + 1, 0, none⟩), .pointer (some ⟨w.heap.size + 1 + 1 + 1, 0, none⟩), .int .i64 (x : Int), undef, undef, .string s,
      .func (.func 99) #[] #[.pointer (some ⟨w.heap.size + 1 + 1 + 1 + 1, 0, none⟩)], .int .i64 (x : Int), undef, undef, undef, undef, undef, undef, undef, undef, undef, undef], defers := [] }) ?assign ?body ?done ?stop
  case assign =>
    intro l x W K hK
    gi_wp2
    exact hK
  case body =>
    rintro l pre x W ⟨⟨hH, hno⟩, hB⟩ _
    have HH := hid hH
    have HO := hid hno
    have HW := hid hB
    have hc0 : W.cell? ⟨w.heap.size, 0, none⟩ = some (.string s) := by rw [cell_of_row _ _ _ _ _ _ hH.h0]; rfl
    obtain ⟨a, b, c, d, hv⟩ := valT_form (s.extract x s.size)
    have RD := hid (fun W => read_any s x W (by have := HS.out; omega))
    have HV := hid hv
    rw [hv] at RD
    clear hH hno hB hv
    cases hok : okT (s.extract x s.size) with
    | false =>
      have HOK := hid hok
      rw [hok] at RD
      clear hok
      gi_wp2
      refine ⟨trivial, (CallsIn.inRound l (callsIn_wide.2 (RD.out _))).mono ?_⟩
      rintro e W2 ⟨rfl, hb2⟩
      have H2 := hid hb2
      clear hb2
      gi_wp2
      have H3 := hid (H2.out.alloc H2.out.size (.cells #[.int .i64 a, .int .i64 b, .int .i64 c, .int .i64 d] 72))
      have h6 : w.heap.size ≤ W.heap.size := HW.out.size
      exact ⟨keeps_below H3.out, H3.out.mono h6, ⟨HH.out.step H3.out, fun y hy => by
        rcases List.mem_append.1 hy with h | h
        · exact HO.out y h
        · simp at h
          rw [h]
          exact HOK.out⟩, HW.out.trans (H3.out.mono h6)⟩
    | true =>
      have HOK := hid hok
      rw [hok] at RD
      clear hok
      gi_wp2
      refine ⟨trivial, (CallsIn.inRound l (callsIn_wide.2 (RD.out _))).mono ?_⟩
      rintro e W2 ⟨rfl, hb2⟩
      have H2 := hid hb2
      clear hb2
      have H3 := hid (H2.out.alloc H2.out.size (.cells #[.int .i64 a, .int .i64 b, .int .i64 c, .int .i64 d] 72))
      have h6 : w.heap.size ≤ W.heap.size := HW.out.size
      have HH3 := hid (HH.out.step H3.out)
      have e0 := heap_alloc_new W2 (.cells #[.int .i64 a, .int .i64 b, .int .i64 c, .int .i64 d] 72)
      obtain ⟨d0, d1, d2, d3⟩ := four_cells (Below.refl _ _) e0
      obtain ⟨r0, r1, r2, r3⟩ := four_cells (Below.refl _ _) HH3.out.h1
      have f0 := frozen_of_row (W2.alloc (.cells #[.int .i64 a, .int .i64 b, .int .i64 c, .int .i64 d] 72)) (w.heap.size + 1) 0 _ _ HH3.out.h1
      have f1 := frozen_of_row (W2.alloc (.cells #[.int .i64 a, .int .i64 b, .int .i64 c, .int .i64 d] 72)) (w.heap.size + 1) 1 _ _ HH3.out.h1
      have f2 := frozen_of_row (W2.alloc (.cells #[.int .i64 a, .int .i64 b, .int .i64 c, .int .i64 d] 72)) (w.heap.size + 1) 2 _ _ HH3.out.h1
      have f3 := frozen_of_row (W2.alloc (.cells #[.int .i64 a, .int .i64 b, .int .i64 c, .int .i64 d] 72)) (w.heap.size + 1) 3 _ _ HH3.out.h1
      have hcm : (W2.alloc (.cells #[.int .i64 a, .int .i64 b, .int .i64 c, .int .i64 d] 72)).cell? ⟨w.heap.size + 1 + 1, 0, none⟩ = some (.int .i64 0) := by rw [cell_of_row _ _ _ _ _ _ HH3.out.h2]; rfl
      have hfm := frozen_of_row (W2.alloc (.cells #[.int .i64 a, .int .i64 b, .int .i64 c, .int .i64 d] 72)) (w.heap.size + 1 + 1) 0 _ _ HH3.out.h2
      have hct : (W2.alloc (.cells #[.int .i64 a, .int .i64 b, .int .i64 c, .int .i64 d] 72)).cell? ⟨w.heap.size + 1 + 1 + 1, 0, none⟩ = some (.bool false) := by rw [cell_of_row _ _ _ _ _ _ HH3.out.h3]; rfl
      have hft := frozen_of_row (W2.alloc (.cells #[.int .i64 a, .int .i64 b, .int .i64 c, .int .i64 d] 72)) (w.heap.size + 1 + 1 + 1) 0 _ _ HH3.out.h3
      clear e0
      gi_wp2
      exact ⟨(keeps_below H3.out).trans (six_keeps _ w.heap.size _ _ _ _ _ _), ⟨rfl, pre, x, a, b, c, d, rfl, HO.out, HOK.out, HV.out, HH3.out.put a b c d (x : Int) true⟩, six_below (HW.out.trans (H3.out.mono h6)) (Nat.le_refl _) _ _ _ _ _ _⟩
  case done =>
    rintro D ys W hD rfl ⟨⟨hH, hno⟩, hB⟩ hK
    have HH := hid hH
    have HO := hid hno
    have HW := hid hB
    obtain ⟨r0, r1, r2, r3⟩ := four_cells (Below.refl _ _) hH.h1
    have f0 := frozen_of_row W (w.heap.size + 1) 0 _ _ hH.h1
    have f1 := frozen_of_row W (w.heap.size + 1) 1 _ _ hH.h1
    have f2 := frozen_of_row W (w.heap.size + 1) 2 _ _ hH.h1
    have f3 := frozen_of_row W (w.heap.size + 1) 3 _ _ hH.h1
    have hcm : W.cell? ⟨w.heap.size + 1 + 1, 0, none⟩ = some (.int .i64 0) := by rw [cell_of_row _ _ _ _ _ _ hH.h2]; rfl
    have hfm := frozen_of_row W (w.heap.size + 1 + 1) 0 _ _ hH.h2
    have hct : W.cell? ⟨w.heap.size + 1 + 1 + 1, 0, none⟩ = some (.bool false) := by rw [cell_of_row _ _ _ _ _ _ hH.h3]; rfl
    have hft := frozen_of_row W (w.heap.size + 1 + 1 + 1) 0 _ _ hH.h3
    have HKD := hid ((six_keeps W w.heap.size (.int .i64 0) (.int .i64 0) (.int .i64 0) (.int .i64 0) (.int .i64 0) (.bool false)).same D _ hK rfl)
    have HP := hid (hH.put 0 0 0 0 0 false)
    have HL := hid (six_below hB (Nat.le_refl w.heap.size) (.int .i64 0) (.int .i64 0) (.int .i64 0) (.int .i64 0) (.int .i64 0) (.bool false))
    clear hH hno hB hK
    gi_wp2
    refine ⟨by simp, .inl ⟨_, _, rfl, run_takeDeferred HKD.out, ?_⟩⟩
    refine ⟨_, results_find _ _ w.heap.size s 0 0 0 0 0 false rfl rfl rfl (HP.out.kept (grownBy_putObj' _ D (.deferred none)) (fun r e => by cases e; exact ⟨_, HKD.out, rfl⟩)), ?_, HL.out.trans (belowK_b (w := w) (Nat.le_refl _) _ D _ _ (by have := HZ.out; omega) HKD.out rfl rfl)⟩
    rw [findN_none _ HO.out]
    rfl
  case stop =>
    rintro D cd pre W hD hpre ⟨⟨rfl, q, m, a, b, c, d, rfl, hq, hok, hv, hH⟩, hB⟩ hK
    gi_wp2
    refine ⟨by simp, .inl ⟨_, _, rfl, run_takeDeferred hK, ?_⟩⟩
    refine ⟨_, results_find _ _ w.heap.size s a b c d (m : Int) true rfl rfl rfl (hH.kept (grownBy_putObj' _ D (.deferred none)) (fun r e => by cases e; exact ⟨_, hK, rfl⟩)), ?_, hB.trans (belowK_b (w := w) (Nat.le_refl _) W D _ _ (by have := HZ.out; omega) hK rfl rfl)⟩
    rw [findN_some _ q hpre hq hok]
    show _ = Ending.returned (.tuple #[valT (s.extract m s.size), .int .i64 (m : Int), .bool true])
    rw [hv]
end Edg
end Go.Proofs.Ythgjijjalfhhcaa
