/- INFLATE: a block's own lengths, of the document: what its walk wants (the walk's draft: InfTabDraft). -/
import Derived.Test.YtlfohihmkfphhaaJnfW
import Derived.Test.YtlfohihmkfphhaaJnfY
import Derived.Test.YtlfohihmkfphhaaHufQ
namespace Go.Proofs.Ytlfohihmkfphhaa
set_option linter.unusedVariables false
open Go.RowKit
open Go.Proofs.Huf
attribute [local go_sem ↓] Go.wp_at_zero Go.wp_at_succ
namespace Inf
open Huff
theorem on_bind {α β : Type} (X L : Nat) (r : Res α) (f : Rdr Nat) (g : Nat → Rdr β) : on X L r (bind f g) = on X L (on X L r f) (g (valOr (on X L r f))) := by
  cases r with
  | bad e => rfl
  | ok a p =>
    simp only [on_ok]
    cases h : f X L p with
    | bad e => rw [bind_bad h]; rfl
    | ok v q => rw [bind_ok h]; rfl
theorem on_if {α β : Type} (X L : Nat) (r : Res α) (c : Prop) [Decidable c] (k : Rdr β) : on X L r (if c then k else fail 2) = on X L (must (decide c) r) k := by
  cases r with
  | bad e => rfl
  | ok a p =>
    rw [on_ok, must_ok]
    by_cases h : c
    · rw [if_pos h, if_pos (by simp [h]), on_ok]
    · rw [if_neg h, if_neg (by simp [h]), on_bad]; rfl
theorem on_then {α β γ δ : Type} {X L : Nat} {r : Res α} {r' : Res β} {f : Rdr γ} {a : γ} (g : γ → Rdr δ) (h : on X L r f = on X L r' (ret a)) : on X L r (bind f g) = on X L r' (g a) := by
  cases r with
  | bad e =>
    cases r' with
    | bad e' => rw [on_bad, on_bad] at h; cases h; rfl
    | ok b q => rw [on_bad, on_ok] at h; cases h
  | ok x p =>
    rw [on_ok] at h
    rw [on_ok]
    cases r' with
    | bad e' => rw [on_bad] at h; rw [bind_bad h, on_bad]
    | ok b q => rw [on_ok] at h; rw [bind_ok h, on_ok]
theorem OwnI.kpR {w w' : World} {B C : Nat} {v : Value} {l : List Nat} (h : OwnI w B v l) (k : Kp TR C w w') : OwnI w' B v l := by
  refine ⟨h.1, ?_⟩
  rcases h.2 with hn | ⟨g, cap, cur, e, hb, hg, h3⟩
  · exact .inl hn
  · exact .inr ⟨g, cap, cur, e, hb, k.keep _ _ _ _ hg (by decide), h3⟩
theorem Xs.other {α : Type} {w w' : World} {S R g : Nat} {s t : ByteArray} {most : Int} {r : Res α} {c : Array Value} {rr : Nat × Nat} (h : Xs w S R s t most r) (hg : w.heap[g]? = some (.cells c 3 rr)) (o : Only g w w') : Xs w' S R s t most r := by
  have hne : ∀ {k : Nat} {cs : Array Value} {t : TypeId} {q : Nat × Nat}, w.heap[k]? = some (.cells cs t q) → t ≠ 3 → w'.heap[k]? = some (.cells cs t q) := by
    intro k cs t q hk ht
    refine (o.block k (Array.getElem?_eq_some_iff.1 hk).1 ?_).trans hk
    rintro rfl
    rw [hg] at hk
    cases hk
    exact ht rfl
  obtain ⟨cs, hb⟩ := h.blk
  exact ⟨hne h.st (by decide), fun a p e => hne (show w.heap[R]? = _ from h.rd a p e) (by decide), ⟨cs, hne hb (by decide)⟩, h.told, h.inn⟩
theorem Xs.grownI {α : Type} {w w' : World} {S R C n : Nat} {s t : ByteArray} {most : Int} {r : Res α} {rv : Value} {xs : List Value} (h : Xs w S R s t most r) (ho : w.ownsRow C 3 1 rv n xs) (hg : w.grownBy w' rv.ownBlock) : Xs w' S R s t most r := by
  obtain ⟨cs, hb⟩ := h.blk
  exact ⟨kept_ints ho hg h.st (by decide), fun a p e => kept_ints ho hg (show w.heap[R]? = _ from h.rd a p e) (by decide), ⟨cs, kept_ints ho hg hb (by decide)⟩, h.told, h.inn⟩
/-- Codes of lengths, of the document, whatever they are. -/
theorem codesX (g cap : Nat) (f : Nat → Nat) (w : World) (hi : Ints w g 0 19 (fun j => (f j : Int))) (h7 : ∀ j, f j ≤ 7) :
    Calls Try.prog 53 #[.slice (some ⟨g, 0, none⟩) 19 cap] w fun e w' => (∃ Q n c, e = .returned (.slice Q n c) ∧ (kindOf (wT f 19) ≠ 3 → n = 19 ∧ ∃ C, w.heap.size ≤ C ∧ Q = some ⟨C, 0, none⟩ ∧ w'.heap[C]? = some (.cells (cdV f 19 19) 47 (0, 0)))) ∧ Below w.heap.size w w' := by
  have hfine : Fine 19 (fun j => (f j : Int)) := ⟨by omega, fun j _ => by have := h7 j; show 0 ≤ (f j : Int) ∧ (f j : Int) ≤ 15; omega⟩
  have hnat : natOf (fun j => (f j : Int)) = f := by funext j; simp [natOf]
  by_cases hk : kindOf (wT f 19) = 3
  · refine (refCodes_over (some ⟨g, 0, none⟩) g 0 19 cap (fun j => (f j : Int)) w (fun _ => rfl) hi hfine (by rw [hnat]; exact hk)).mono ?_
    rintro e w' ⟨rfl, hb⟩
    exact ⟨⟨_, _, _, rfl, fun h => absurd hk h⟩, hb⟩
  · have h := refCodes_yes (some ⟨g, 0, none⟩) g 0 19 cap (fun j => (f j : Int)) w (fun _ => rfl) hi hfine (by rw [hnat]; exact hk)
    rw [hnat] at h
    refine h.mono ?_
    rintro e w' ⟨C, h1, rfl, h2, h3⟩
    exact ⟨⟨_, _, _, rfl, fun _ => ⟨rfl, C, h1, rfl, h2⟩⟩, h3⟩
def meas {α : Type} (L : Nat) : Res α → Nat
  | .ok _ p => L - p + 1
  | .bad _ => 0
theorem on_take_ok {X L n a q : Nat} {r : Res Nat} (h : on X L r (take n) = .ok a q) : ∃ b q0, r = .ok b q0 ∧ q = q0 + n := by
  cases r with
  | bad e => cases h
  | ok b q0 => exact ⟨b, q0, rfl, take_at h⟩
theorem must_of {ok : Bool} {r : Res Nat} {a q : Nat} (h : must ok r = .ok a q) : r = .ok a q ∧ ok = true := by
  cases r with
  | bad e => cases h
  | ok b q0 =>
    rw [must_ok] at h
    split at h
    · cases h; exact ⟨rfl, by assumption⟩
    · cases h
theorem runX16 (X L : Nat) (r1 : Res Nat) (l : List Nat) (hl : 0 < l.length) : on X L r1 (runP 16 l) = on X L (on X L r1 (take 2)) (ret (l.getD (l.length - 1) 0, 3 + valOr (on X L r1 (take 2)))) := by
  unfold runP
  rw [if_pos rfl, if_neg (by omega), on_bind]
theorem runX16z (X L : Nat) (r1 : Res Nat) (l : List Nat) (hl : l.length = 0) (V T : Nat) : on X L r1 (runP 16 l) = on X L (on X L (must false r1) (take 2)) (ret (V, T)) := by
  unfold runP
  rw [if_pos rfl, if_pos hl]
  cases r1 <;> rfl
theorem runX17 (X L : Nat) (r1 : Res Nat) (l : List Nat) : on X L r1 (runP 17 l) = on X L (on X L r1 (take 3)) (ret (0, 3 + valOr (on X L r1 (take 3)))) := by
  unfold runP
  rw [if_neg (by decide), if_pos rfl, on_bind]
theorem runX18 (X L : Nat) (r1 : Res Nat) (l : List Nat) : on X L r1 (runP 18 l) = on X L (on X L r1 (take 7)) (ret (0, 11 + valOr (on X L r1 (take 7)))) := by
  unfold runP
  rw [if_neg (by decide), if_neg (by decide), if_pos rfl, on_bind]
theorem runX (X L : Nat) (r1 : Res Nat) (c : Nat) (l : List Nat) (h1 : c ≠ 16) (h2 : c ≠ 17) (h3 : c ≠ 18) : on X L r1 (runP c l) = on X L r1 (ret (c, 1)) := by
  unfold runP
  rw [if_neg h1, if_neg h2, if_neg h3]
theorem row_step {X L F long : Nat} {g : Nat → Nat} {l : List Nat} {r r1 r3 r6 : Res Nat} {V T : Nat} (hl : l.length < long) (h1 : r1 = on X L r (sym g 19)) (h3 : on X L r1 (runP (valOr r1) l) = on X L r3 (ret (V, T))) (h6 : r6 = must (decide (l.length + T ≤ long)) r3) :
    on X L r (rowF g long (F + 1) l) = on X L r6 (rowF g long F (l ++ List.replicate T V)) := by
  conv => lhs; unfold rowF
  rw [if_pos hl, on_bind, ← h1, on_then _ h3, on_if, ← h6]
end Inf
end Go.Proofs.Ytlfohihmkfphhaa
