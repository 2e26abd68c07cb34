/- SymbolBack: mathematics: the next length, the next distance; two blocks that stay. -/
import Derived.Test.YthgjijjalfhhcaaSymO
namespace Go.Proofs.Ythgjijjalfhhcaa
set_option linter.unusedVariables false
open Go.RowKit
open Go.Proofs.Sym

theorem long_form {n c k q : Int} (h : IsLong n c k q true) : ∃ K : Nat, K ≤ 5 ∧ k = (K : Int) ∧ 0 ≤ q ∧ q < 2 ^ K := by
  rcases h with ⟨rfl, rfl, rfl, rfl, _⟩ | ⟨a, p, hp, rfl, rfl, rfl, _⟩ | ⟨_, _, _, _, h⟩
  · exact ⟨0, by omega, rfl, by omega, by decide⟩
  · obtain ⟨h0, h1, h2⟩ := hp
    rw [beg_succ] at h2
    refine ⟨wide 4 p, by unfold wide; omega, rfl, by omega, ?_⟩
    have e : ((2 ^ wide 4 p : Nat) : Int) = (2 : Int) ^ wide 4 p := by simp
    rw [← e]
    omega
  · cases h
theorem back_form {n c k q : Int} (h : IsBack n c k q true) : ∃ K : Nat, K ≤ 13 ∧ k = (K : Int) ∧ 0 ≤ q ∧ q < 2 ^ K := by
  rcases h with ⟨p, hp, rfl, rfl, rfl, _⟩ | ⟨_, _, _, _, h⟩
  · obtain ⟨h0, h1, h2⟩ := hp
    rw [beg_succ] at h2
    refine ⟨wide 2 p, by unfold wide; omega, rfl, by omega, ?_⟩
    have e : ((2 ^ wide 2 p : Nat) : Int) = (2 : Int) ^ wide 2 p := by simp
    rw [← e]
    omega
  · cases h
theorem at_next {b e m : Nat} {n : Int} {p p' : Nat} (h : At b e m n p) (h' : At b e m (n + 1) p') : p' = p ∨ (p' = p + 1 ∧ n + 1 = (beg b e p' : Int)) := by
  have h1 := at_lt h' (q := p) (by have := h.2.1; omega)
  obtain ⟨a0, a1, a2⟩ := h
  by_cases c : p' = p
  · exact .inl c
  · right
    by_cases d : p' = p + 1
    · subst d
      exact ⟨rfl, by have := h'.2.1; omega⟩
    · have h2 := beg_le b e (p + 1 + 1) p' (by omega)
      have h3 := beg_lt b e (p + 1)
      have := h'.2.1
      omega
theorem long_next {n c k q c' k' q' : Int} (h : IsLong n c k q true) (hn : n < 258) (h' : IsLong (n + 1) c' k' q' true) : c' = c ∨ (c' = c + 1 ∧ q' = 0) := by
  rcases h with ⟨rfl, _⟩ | ⟨a, p, hp, rfl, rfl, rfl, _⟩ | ⟨_, _, _, _, h⟩
  · omega
  · rcases h' with ⟨e, rfl, rfl, rfl, _⟩ | ⟨a', p', hp', rfl, rfl, rfl, _⟩ | ⟨_, _, _, _, h⟩
    · have e27 : At 3 4 28 n 27 := by
        obtain rfl : n = 257 := by omega
        unfold At; decide +kernel
      have := at_one hp e27
      right; omega
    · rcases at_next hp hp' with rfl | ⟨rfl, e⟩
      · exact .inl rfl
      · right; omega
    · cases h
  · cases h
theorem back_next {n c k q c' k' q' : Int} (h : IsBack n c k q true) (h' : IsBack (n + 1) c' k' q' true) : (c' = c ∧ q' = q + 1) ∨ (c' = c + 1 ∧ q' = 0) := by
  rcases h with ⟨p, hp, rfl, rfl, rfl, _⟩ | ⟨_, _, _, _, h⟩
  · rcases h' with ⟨p', hp', rfl, rfl, rfl, _⟩ | ⟨_, _, _, _, h⟩
    · rcases at_next hp hp' with rfl | ⟨rfl, e⟩
      · left; omega
      · right; omega
    · cases h
  · cases h

/-- Two signs' blocks. -/
structure Both (w W : World) (G H : Nat) (c k q d l r : Int) : Prop where
  one : One w W G #[.int .i64 c, .int .i64 k, .int .i64 q] 61
  two : One w W H #[.int .i64 d, .int .i64 l, .int .i64 r] 61
theorem Both.step {w W W' : World} {G H : Nat} {c k q d l r : Int} (h : Both w W G H c k q d l r) (b : Below W.heap.size W W') : Both w W' G H c k q d l r := ⟨h.one.step b, h.two.step b⟩
theorem Both.drew {w W : World} {G H : Nat} {c k q d l r : Int} (h : Both w W G H c k q d l r) : Both w W.drew G H c k q d l r := ⟨h.one.drew, h.two.drew⟩
theorem Both.cells {w W : World} {G H : Nat} {c k q d l r : Int} (h : Both w W G H c k q d l r) : W.cell? ⟨G, 0, none⟩ = some (.int .i64 c) ∧ W.cell? ⟨G, 1, none⟩ = some (.int .i64 k) ∧ W.cell? ⟨G, 2, none⟩ = some (.int .i64 q) ∧ W.cell? ⟨H, 0, none⟩ = some (.int .i64 d) ∧ W.cell? ⟨H, 1, none⟩ = some (.int .i64 l) ∧ W.cell? ⟨H, 2, none⟩ = some (.int .i64 r) :=
  ⟨h.one.c 0, h.one.c 1, h.one.c 2, h.two.c 0, h.two.c 1, h.two.c 2⟩
end Go.Proofs.Ythgjijjalfhhcaa
