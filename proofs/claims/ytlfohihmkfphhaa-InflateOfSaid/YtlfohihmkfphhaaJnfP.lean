/- INFLATE: mathematics, no program: bytes behind the last block, bytes that are missing, room; the document's example. -/
import Derived.Test.YtlfohihmkfphhaaJnfN
namespace Go.Proofs.Ytlfohihmkfphhaa
set_option linter.unusedVariables false
open Go.Proofs.Huf
namespace Inf
theorem numL_app : ∀ (l m : List UInt8), numL (l ++ m) = numL l + 256 ^ l.length * numL m
  | [], m => by simp [numL]
  | c :: l, m => by
    show c.toNat + 256 * numL (l ++ m) = c.toNat + 256 * numL l + 256 ^ (l.length + 1) * numL m
    rw [numL_app l m, Nat.mul_add, Nat.pow_succ, Nat.mul_comm (256 ^ l.length) 256, Nat.mul_assoc]
    omega
theorem numL_mod (l m : List UInt8) (n : Nat) (h : n ≤ l.length) : numL (l.take n ++ m) % 2 ^ (8 * n) = numL l % 2 ^ (8 * n) := by
  have e : l = l.take n ++ l.drop n := (List.take_append_drop n l).symm
  have hl : (l.take n).length = n := by simp; omega
  conv => rhs; rw [e]
  rw [numL_app, numL_app, hl, show (256 : Nat) ^ n = 2 ^ (8 * n) by rw [Nat.pow_mul], Nat.add_mul_mod_self_left, Nat.add_mul_mod_self_left]
theorem blocks_three (most K F : Nat) (out : List UInt8) (X L p : Nat) (o : List UInt8) (q : Nat) (h8 : 8 ∣ L) (hp : p ≤ L) (h : blocksF most K F out X L p = .ok o q) : p + 3 ≤ q ∧ q ≤ L := by
  match F with
  | 0 => cases h
  | F + 1 =>
    unfold blocksF at h
    obtain ⟨a, p1, h1, h⟩ := bind_of h
    obtain ⟨b, p2, h2, h⟩ := bind_of h
    have e1 : p1 = p + 1 ∧ p1 ≤ L := by
      unfold take at h1
      split at h1
      · cases h1; exact ⟨rfl, by assumption⟩
      · cases h1
    have e2 : p2 = p1 + 2 ∧ p2 ≤ L := by
      unfold take at h2
      split at h2
      · cases h2; exact ⟨rfl, by assumption⟩
      · cases h2
    have hg : Good (bind (blockP most K b out) fun out' => if a = 1 then ret out' else blocksF most K F out') :=
      good_bind (good_block _ _ _ _) fun _ => good_ite (good_ret _) (good_blocks most K F _)
    obtain ⟨i1, i2⟩ := hg.mono _ _ _ _ _ h8 e2.2 h
    omega
theorem cT_none {g : Nat → Nat} {n : Nat} : ∀ {j : Nat}, (∀ i, i < j → g i ≠ n) → cT g j n = 0
  | 0, _ => rfl
  | j + 1, h => by
    rw [cT_succ, cT_none (fun i hi => h i (by omega)), if_neg (fun c => h j (by omega) c.1)]
theorem infl_more {m m2 K X L X2 L2 q : Nat} {o : List UInt8} (h8 : 8 ∣ L) (h : blocksF m K K [] X L 0 = .ok o q) (hL : q ≤ L2) (hX : X % 2 ^ q = X2 % 2 ^ q) (hm : o.length ≤ m2) : blocksF m2 K K [] X2 L2 0 = .ok o q := by
  have h2 := (room_blocks K K m [] X L 0 o q (Nat.zero_le _) h).2.2.1 m2 hm
  exact (good_blocks m2 K K []).ext _ _ _ _ _ X2 L2 h8 (Nat.zero_le _) h2 hL hX
theorem infl_cut {m K X L X2 L2 q : Nat} {o : List UInt8} (h8 : 8 ∣ L) (h82 : 8 ∣ L2) (h : blocksF m K K [] X L 0 = .ok o q) (hL : L2 < q) (hX : X % 2 ^ L2 = X2 % 2 ^ L2) : blocksF m K K [] X2 L2 0 = .bad 3 :=
  (good_blocks m K K []).cut _ _ _ _ _ X2 L2 h8 h82 (Nat.zero_le _) h (Nat.zero_le _) hL hX
theorem infl_less {m m2 K X L q : Nat} {o : List UInt8} (h : blocksF m K K [] X L 0 = .ok o q) (hm : m2 < o.length) : blocksF m2 K K [] X L 0 = .bad 4 :=
  (room_blocks K K m [] X L 0 o q (Nat.zero_le _) h).2.2.2 m2 (Nat.zero_le _) hm
theorem infl_room {m K X L q : Nat} {o : List UInt8} (h : blocksF m K K [] X L 0 = .ok o q) : o.length ≤ m := (room_blocks K K m [] X L 0 o q (Nat.zero_le _) h).2.1
set_option maxRecDepth 100000 in
theorem fix_ge : ∀ i, i < 288 → 7 ≤ fnL fixA i := by
  have key : ∀ i : Fin 288, 7 ≤ fnL fixA i.1 := by decide +kernel
  exact fun i hi => key ⟨i, hi⟩
set_option maxRecDepth 100000 in
theorem fix_lt : ∀ i, i < 256 → 8 ≤ fnL fixA i := by
  have key : ∀ i : Fin 256, 8 ≤ fnL fixA i.1 := by decide +kernel
  exact fun i hi => key ⟨i, hi⟩
theorem fix_256 : fnL fixA 256 = 7 := by decide +kernel
theorem fix_few0 (n : Nat) (h : n < 7) : findT (fnL fixA) 288 288 n 0 = none := find_none fun i hi c => by have := fix_ge i hi; omega
theorem fix_end : findT (fnL fixA) 288 288 7 0 = some 256 := by
  have hc : ∀ n, n < 7 → cT (fnL fixA) 288 n = 0 := fun n hn => cT_none fun i hi c => by have := fix_ge i hi; omega
  have hs : sT (fnL fixA) 288 6 = 0 := by
    simp only [sT, hc 1 (by omega), hc 2 (by omega), hc 3 (by omega), hc 4 (by omega), hc 5 (by omega), hc 6 (by omega)]
  have hcode : codeAt (fnL fixA) 288 256 = 0 := by
    unfold codeAt fT
    rw [fix_256, if_neg (by decide)]
    simp only
    rw [hs, cT_none fun i hi c => by have := fix_lt i hi; omega]
  have h1 : findT (fnL fixA) 288 256 7 0 = none := find_none fun i hi c => by have := fix_lt i hi; omega
  exact find_keep (find_here h1 fix_256 hcode) 288 (by omega)
theorem any_of (l : List Nat) (h : kindOf (wT (fnL l) l.length) = 1) : (cdsOf l).any = true := by unfold cdsOf; simp [h]
theorem fix_kind : kindOf (wT (fnL fixA) fixA.length) = 1 := by decide +kernel
theorem fix_read : (cdsOf fixA).read 3 16 3 = .ok 256 10 := by
  have hany : (cdsOf fixA).any = true := any_of fixA fix_kind
  have hn : (cdsOf fixA).n = 288 := by unfold cdsOf; decide +kernel
  unfold Cds.read
  rw [if_pos hany, hn]
  show symR (decF (fnL fixA) 288 3 16 15 3 0 0) = _
  have hb : ∀ p, 3 ≤ p → p < 16 → bitN 3 p = 0 := by
    intro p h1 h2
    unfold bitN
    rw [Nat.div_eq_of_lt (Nat.lt_of_lt_of_le (show 3 < 2 ^ 3 by decide) (Nat.pow_le_pow_right (by decide) h1))]
  have step : ∀ f p n, 3 ≤ p → p < 16 → n + 1 < 7 → decF (fnL fixA) 288 3 16 (f + 1) p n 0 = decF (fnL fixA) 288 3 16 f (p + 1) (n + 1) 0 := by
    intro f p n h1 h2 h3
    rw [dec_on h2 (by rw [hb p h1 h2]; exact fix_few0 (n + 1) h3), hb p h1 h2]
  rw [step 14 3 0 (by omega) (by omega) (by omega), step 13 4 1 (by omega) (by omega) (by omega), step 12 5 2 (by omega) (by omega) (by omega), step 11 6 3 (by omega) (by omega) (by omega), step 10 7 4 (by omega) (by omega) (by omega), step 9 8 5 (by omega) (by omega) (by omega)]
  rw [dec_hit (by omega) (by rw [hb 9 (by omega) (by omega)]; exact fix_end)]
  rfl
/-- The document's example. -/
theorem ex_bits (K : Nat) (hK : 1 ≤ K) : blocksF 10 K K [] 3 16 0 = .ok [] 10 := by
  obtain ⟨K, rfl⟩ : ∃ k, K = k + 1 := ⟨K - 1, by omega⟩
  have h1 : take 1 3 16 0 = .ok 1 1 := by unfold take; rw [if_pos (by omega)]
  have h2 : take 2 3 16 1 = .ok 1 3 := by unfold take; rw [if_pos (by omega)]
  have h3 : blockP 10 (K + 1) 1 [] 3 16 3 = .ok [] 10 := by
    unfold blockP
    rw [if_neg (by decide), if_pos rfl]
    unfold symsF
    rw [bind_ok fix_read, if_pos rfl]
    rfl
  conv => lhs; unfold blocksF
  rw [bind_ok h1, bind_ok h2, bind_ok h3, if_pos rfl]
  rfl
end Inf
end Go.Proofs.Ytlfohihmkfphhaa
