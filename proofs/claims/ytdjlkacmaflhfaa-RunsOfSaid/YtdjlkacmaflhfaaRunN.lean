/- RUNS: mathematics of the steps of a row. No program in it. -/
import Derived.Test.YtdjlkacmaflhfaaRunM
namespace Go.Proofs.Runs

/-- How far a row goes on with one length, n places at most. -/
def goF (x : Nat → Int) (v : Int) : Nat → Nat → Nat
  | 0, _ => 0
  | n + 1, at' => if x at' = v then goF x v n (at' + 1) + 1 else 0
def goes (x : Nat → Int) (len : Nat) (v : Int) (at' : Nat) : Nat := goF x v (len - at') at'
theorem goF_spec (x : Nat → Int) (v : Int) : ∀ (n at' : Nat), (∀ i, i < goF x v n at' → x (at' + i) = v) ∧ goF x v n at' ≤ n ∧ (goF x v n at' = n ∨ x (at' + goF x v n at') ≠ v) := by
  intro n
  induction n with
  | zero => intro at'; exact ⟨fun i hi => absurd hi (Nat.not_lt_zero _), Nat.le_refl _, .inl rfl⟩
  | succ n ih =>
    intro at'
    obtain ⟨h1, h2, h3⟩ := ih (at' + 1)
    by_cases hv : x at' = v
    · have e : goF x v (n + 1) at' = goF x v n (at' + 1) + 1 := if_pos hv
      rw [e]
      refine ⟨fun i hi => ?_, by omega, ?_⟩
      · cases i with
        | zero => exact hv
        | succ i => rw [show at' + (i + 1) = at' + 1 + i by omega]; exact h1 i (by omega)
      · rcases h3 with h3 | h3
        · exact .inl (by omega)
        · refine .inr ?_
          rw [show at' + (goF x v n (at' + 1) + 1) = at' + 1 + goF x v n (at' + 1) by omega]
          exact h3
    · have e : goF x v (n + 1) at' = 0 := if_neg hv
      rw [e]
      exact ⟨fun i hi => absurd hi (Nat.not_lt_zero _), Nat.zero_le _, .inr hv⟩
theorem goes_all {x : Nat → Int} {len : Nat} {v : Int} {at' i : Nat} (h : i < goes x len v at') : x (at' + i) = v := (goF_spec x v _ _).1 i h
theorem goes_le {x : Nat → Int} {len : Nat} {v : Int} {at' : Nat} (h : at' ≤ len) : at' + goes x len v at' ≤ len := by
  have := (goF_spec x v (len - at') at').2.1
  unfold goes; omega
/-- So far, and no further. -/
theorem goes_eq {x : Nat → Int} {len : Nat} {v : Int} {at' Z : Nat} (hat : at' ≤ len) (h1 : ∀ i, i < Z → x (at' + i) = v) (h2 : at' + Z ≤ len) (h3 : at' + Z = len ∨ x (at' + Z) ≠ v) : goes x len v at' = Z := by
  obtain ⟨g1, g2, g3⟩ := goF_spec x v (len - at') at'
  unfold goes
  generalize goF x v (len - at') at' = g at *
  by_cases hlt : g < Z
  · rcases g3 with g3 | g3
    · omega
    · exact absurd (h1 g hlt) g3
  · by_cases hgt : Z < g
    · rcases h3 with h3 | h3
      · omega
      · exact absurd (g1 Z hgt) h3
    · omega
theorem goes_min {x : Nat → Int} {len : Nat} {v : Int} {at' Z cap : Nat} (hat : at' ≤ len) (h1 : ∀ i, i < Z → x (at' + i) = v) (h2 : at' + Z ≤ len) (hc : Z ≤ cap) (h3 : Z = cap ∨ at' + Z = len ∨ x (at' + Z) ≠ v) : Z = min cap (goes x len v at') := by
  obtain ⟨g1, g2, g3⟩ := goF_spec x v (len - at') at'
  unfold goes
  generalize goF x v (len - at') at' = g at *
  by_cases hlt : g < Z
  · rcases g3 with g3 | g3
    · omega
    · exact absurd (h1 g hlt) g3
  · rcases h3 with h3 | h3 | h3
    · omega
    · omega
    · by_cases hgt : Z < g
      · exact absurd (g1 Z hgt) h3
      · omega

abbrev S := Int × Int × Int
/-- How far it goes on with 0, and with the length ahead. -/
def zT (x : Nat → Int) (len at' : Nat) : Nat := goes x len 0 at'
def aT (x : Nat → Int) (len at' : Nat) : Nat := if at' = 0 then 0 else goes x len (x (at' - 1)) at'
/-- The step at a place, and how many lengths it stands for. -/
def nextS (x : Nat → Int) (z a at' : Nat) : S :=
  if 11 ≤ z then (18, 7, ((min (z - 11) 127 : Nat) : Int)) else if 3 ≤ z then (17, 3, ((z - 3 : Nat) : Int)) else if 3 ≤ a then (16, 2, ((min (a - 3) 3 : Nat) : Int)) else (x at', 0, 0)
def nextN (z a : Nat) : Nat := if 11 ≤ z then min z 138 else if 3 ≤ z then z else if 3 ≤ a then min a 6 else 1
theorem next_cases (x : Nat → Int) (z a at' : Nat) :
    (11 ≤ z ∧ nextS x z a at' = (18, 7, ((min (z - 11) 127 : Nat) : Int)) ∧ nextN z a = min z 138) ∨
    (3 ≤ z ∧ z < 11 ∧ nextS x z a at' = (17, 3, ((z - 3 : Nat) : Int)) ∧ nextN z a = z) ∨
    (z < 3 ∧ 3 ≤ a ∧ nextS x z a at' = (16, 2, ((min (a - 3) 3 : Nat) : Int)) ∧ nextN z a = min a 6) ∨
    (z < 3 ∧ a < 3 ∧ nextS x z a at' = (x at', 0, 0) ∧ nextN z a = 1) := by
  unfold nextS nextN
  by_cases h1 : 11 ≤ z
  · simp [h1]
  · by_cases h2 : 3 ≤ z
    · simp [h1, h2]; omega
    · by_cases h3 : 3 ≤ a
      · simp [h1, h2, h3]; omega
      · simp [h1, h2, h3]; omega
theorem aT_le {x : Nat → Int} {len at' : Nat} (h : at' ≤ len) : at' + aT x len at' ≤ len := by
  unfold aT
  split
  · omega
  · exact goes_le h
theorem zT_le {x : Nat → Int} {len at' : Nat} (h : at' ≤ len) : at' + zT x len at' ≤ len := goes_le h
def atN (x : Nat → Int) (len at' : Nat) : Nat := nextN (zT x len at') (aT x len at')
def atS (x : Nat → Int) (len at' : Nat) : S := nextS x (zT x len at') (aT x len at') at'
theorem atN_le {x : Nat → Int} {len at' : Nat} (h : at' < len) : 1 ≤ atN x len at' ∧ at' + atN x len at' ≤ len := by
  have h1 := aT_le (x := x) (Nat.le_of_lt h)
  have h2 := zT_le (x := x) (Nat.le_of_lt h)
  have h3 := next_cases x (zT x len at') (aT x len at') at'
  unfold atN
  omega

/-- Behind so many steps: the place, and the steps. -/
def stT (x : Nat → Int) (len : Nat) : Nat → Nat × List S
  | 0 => (0, [])
  | j + 1 => let s := stT x len j; if s.1 < len then (s.1 + atN x len s.1, s.2 ++ [atS x len s.1]) else s
theorem st_next {x : Nat → Int} {len j at' : Nat} {o : List S} (h : stT x len j = (at', o)) (hlt : at' < len) : stT x len (j + 1) = (at' + atN x len at', o ++ [atS x len at']) := by
  simp [stT, h, hlt]
theorem st_stop {x : Nat → Int} {len j at' : Nat} {o : List S} (h : stT x len j = (at', o)) (hge : ¬ at' < len) : stT x len (j + 1) = (at', o) := by
  simp [stT, h, hge]
theorem st_le (x : Nat → Int) (len : Nat) : ∀ j, (stT x len j).1 ≤ len ∧ (stT x len j).2.length ≤ (stT x len j).1 ∧ ((stT x len j).1 < len → j ≤ (stT x len j).1) := by
  intro j
  induction j with
  | zero => exact ⟨Nat.zero_le _, Nat.le_refl _, fun _ => Nat.le_refl _⟩
  | succ j ih =>
    obtain ⟨h1, h2, h3⟩ := ih
    generalize hs : stT x len j = s at *
    obtain ⟨at', o⟩ := s
    by_cases hlt : at' < len
    · have hn := atN_le (x := x) hlt
      rw [st_next hs hlt]
      simp at h2 h3 ⊢
      omega
    · rw [st_stop hs hlt]
      exact ⟨h1, h2, fun h => absurd h hlt⟩
theorem st_stay {x : Nat → Int} {len j : Nat} (h : ¬ (stT x len j).1 < len) : ∀ k, stT x len (j + k) = stT x len j := by
  intro k
  induction k with
  | zero => rfl
  | succ k ih =>
    rw [show j + (k + 1) = j + k + 1 by omega]
    have h' : stT x len (j + k) = ((stT x len j).1, (stT x len j).2) := ih
    rw [st_stop h' h]
def ofT (x : Nat → Int) (len : Nat) : List S := (stT x len len).2
theorem st_done {x : Nat → Int} {len j at' : Nat} {o : List S} (h : stT x len j = (at', o)) (hge : ¬ at' < len) : ofT x len = o := by
  have h0 : ¬ (stT x len j).1 < len := by rw [h]; exact hge
  have hl := st_le x len len
  have h1 : ¬ (stT x len len).1 < len := by omega
  unfold ofT
  by_cases hj : j ≤ len
  · have := st_stay h0 (len - j)
    rw [show j + (len - j) = len by omega] at this
    rw [this, h]
  · have := st_stay h1 (j - len)
    rw [show len + (j - len) = j by omega] at this
    rw [← this, h]
theorem of_le (x : Nat → Int) (len : Nat) : (ofT x len).length ≤ len := by
  have := st_le x len len
  unfold ofT; omega

/-- Such as lengths may be. -/
def Fine (x : Nat → Int) (len : Nat) : Prop := len ≤ 400 ∧ ∀ i, i < len → 0 ≤ x i ∧ x i ≤ 15

/-! ### A row's steps make it again -/
def takeT (x : Nat → Int) (n : Nat) : List Int := (List.range n).map x
theorem takeT_len (x : Nat → Int) (n : Nat) : (takeT x n).length = n := by simp [takeT]
theorem takeT_at (x : Nat → Int) {n i : Nat} (h : i < n) : (takeT x n).getD i 0 = x i := by simp [takeT, h]
theorem takeT_more (x : Nat → Int) (v : Int) (at' : Nat) : ∀ n, (∀ i, i < n → x (at' + i) = v) → takeT x (at' + n) = takeT x at' ++ List.replicate n v := by
  intro n
  induction n with
  | zero => intro _; simp
  | succ n ih =>
    intro h
    have h1 := ih fun i hi => h i (by omega)
    have h2 : takeT x (at' + (n + 1)) = takeT x (at' + n) ++ [x (at' + n)] := by
      unfold takeT
      rw [show at' + (n + 1) = (at' + n) + 1 by omega, List.range_succ, List.map_append]
      rfl
    rw [h2, h1, h n (by omega), List.replicate_succ', List.append_assoc]
theorem one_next {x : Nat → Int} {len at' : Nat} (hF : Fine x len) (hlt : at' < len) :
    oneT (takeT x at') (atS x len at').1 (atS x len at').2.1 (atS x len at').2.2 = some (takeT x (at' + atN x len at')) := by
  have hz := zT_le (x := x) (Nat.le_of_lt hlt)
  have ha := aT_le (x := x) (Nat.le_of_lt hlt)
  have hx := hF.2 at' hlt
  have h400 := hF.1
  have hll := takeT_len x at'
  have hzz : ∀ i, i < zT x len at' → x (at' + i) = 0 := fun i hi => goes_all hi
  have haa : at' ≠ 0 → ∀ i, i < aT x len at' → x (at' + i) = x (at' - 1) := fun h i hi => by unfold aT at hi; rw [if_neg h] at hi; exact goes_all hi
  have ha0 : at' = 0 → aT x len at' = 0 := fun h => if_pos h
  unfold atN atS
  generalize zT x len at' = z at *
  generalize aT x len at' = a at *
  rcases next_cases x z a at' with ⟨h1, e1, e2⟩ | ⟨h1, h2, e1, e2⟩ | ⟨h1, h2, e1, e2⟩ | ⟨h1, h2, e1, e2⟩ <;> rw [e1, e2] <;> dsimp only
  · have hm : manyI 18 ((min (z - 11) 127 : Nat) : Int) = ((min z 138 : Nat) : Int) := by
      have := many_cases 18 ((min (z - 11) 127 : Nat) : Int); omega
    rw [oneT_ok (by unfold okS; omega) (by simp) (by rw [hll, hm]; omega), hm]
    have hv : valI (takeT x at') 18 = 0 := rfl
    simp only [hv, Int.toNat_natCast]
    rw [takeT_more x 0 at' _ fun i hi => hzz i (by omega)]
  · have hm : manyI 17 ((z - 3 : Nat) : Int) = (z : Int) := by
      have := many_cases 17 ((z - 3 : Nat) : Int); omega
    rw [oneT_ok (by unfold okS; omega) (by simp) (by rw [hll, hm]; omega), hm]
    have hv : valI (takeT x at') 17 = 0 := rfl
    simp only [hv, Int.toNat_natCast]
    rw [takeT_more x 0 at' _ fun i hi => hzz i (by omega)]
  · have hm : manyI 16 ((min (a - 3) 3 : Nat) : Int) = ((min a 6 : Nat) : Int) := by
      have := many_cases 16 ((min (a - 3) 3 : Nat) : Int); omega
    have hne : at' ≠ 0 := fun h => by have := ha0 h; omega
    rw [oneT_ok (by unfold okS; omega) (by rw [hll]; exact fun h => hne h.2) (by rw [hll, hm]; omega), hm]
    have hv : valI (takeT x at') 16 = x (at' - 1) := by
      unfold valI
      rw [if_pos rfl, hll, takeT_at x (by omega)]
    simp only [hv, Int.toNat_natCast]
    rw [takeT_more x (x (at' - 1)) at' _ fun i hi => haa hne i (by omega)]
  · have hm : manyI (x at') 0 = 1 := by have := many_cases (x at') 0; omega
    rw [oneT_ok (by unfold okS; omega) (fun h => by omega) (by rw [hll, hm]; omega), hm]
    have hv : valI (takeT x at') (x at') = x at' := by
      unfold valI
      rw [if_neg (by omega), if_pos (by omega)]
    simp only [hv]
    rw [takeT_more x (x at') at' 1 fun i hi => by obtain rfl : i = 0 := by omega
                                                  rfl]
    rfl
def sx (o : List S) (k : Nat) : Int := (o.getD k (0, 0, 0)).1
def sy (o : List S) (k : Nat) : Int := (o.getD k (0, 0, 0)).2.1
def sz (o : List S) (k : Nat) : Int := (o.getD k (0, 0, 0)).2.2
theorem st_back {x : Nat → Int} {len : Nat} (hF : Fine x len) : ∀ j, rowT (sx (stT x len j).2) (sy (stT x len j).2) (sz (stT x len j).2) (stT x len j).2.length = some (takeT x (stT x len j).1) := by
  intro j
  induction j with
  | zero => rfl
  | succ j ih =>
    generalize hs : stT x len j = s at *
    obtain ⟨at', o⟩ := s
    by_cases hlt : at' < len
    · rw [st_next hs hlt]
      have hlen : (o ++ [atS x len at']).length = o.length + 1 := by simp
      simp only [hlen]
      have hcg : rowT (sx (o ++ [atS x len at'])) (sy (o ++ [atS x len at'])) (sz (o ++ [atS x len at'])) o.length = rowT (sx o) (sy o) (sz o) o.length := by
        apply rowT_congr
        intro k hk
        simp [sx, sy, sz, List.getElem?_append, hk]
      rw [rowT_succ (hcg.trans ih)]
      have e : (o ++ [atS x len at']).getD o.length (0, 0, 0) = atS x len at' := by simp
      unfold sx sy sz
      rw [e]
      exact one_next hF hlt
    · rw [st_stop hs hlt]
      exact ih
theorem of_back {x : Nat → Int} {len : Nat} (hF : Fine x len) : rowT (sx (ofT x len)) (sy (ofT x len)) (sz (ofT x len)) (ofT x len).length = some (takeT x len) := by
  have h := st_back hF len
  have hl := st_le x len len
  have e : (stT x len len).1 = len := by omega
  rw [e] at h
  exact h
end Go.Proofs.Runs
