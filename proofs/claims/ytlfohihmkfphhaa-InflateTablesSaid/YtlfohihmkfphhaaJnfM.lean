/- INFLATE: mathematics, no program: what is read of bits, as functions; what stays as bits come behind, or are missing. -/
import Derived.Test.YtlfohihmkfphhaaHrM
import Derived.Test.YtlfohihmkfphhaaSymM
namespace Go.Proofs.Ytlfohihmkfphhaa
set_option linter.unusedVariables false
open Go.Proofs.Huf
namespace Inf
inductive Res (α : Type) where
  | ok (a : α) (p : Nat) : Res α
  | bad (e : Nat) : Res α
/-- Of what the bits are, how many there are, and where one stands: what is read, and where one stands then; or what is wrong. -/
abbrev Rdr (α : Type) := Nat → Nat → Nat → Res α
def ret {α : Type} (a : α) : Rdr α := fun _ _ p => .ok a p
def fail {α : Type} (e : Nat) : Rdr α := fun _ _ _ => .bad e
def bind {α β : Type} (f : Rdr α) (g : α → Rdr β) : Rdr β := fun X L p => match f X L p with
  | .ok a q => g a X L q
  | .bad e => .bad e
theorem bind_ok {α β : Type} {f : Rdr α} {g : α → Rdr β} {X L p : Nat} {a : α} {q : Nat} (h : f X L p = .ok a q) : bind f g X L p = g a X L q := by unfold bind; rw [h]
theorem bind_bad {α β : Type} {f : Rdr α} {g : α → Rdr β} {X L p e : Nat} (h : f X L p = .bad e) : bind f g X L p = .bad e := by unfold bind; rw [h]
def take (n : Nat) : Rdr Nat := fun X L p => if p + n ≤ L then .ok (X / 2 ^ p % 2 ^ n) (p + n) else .bad 3
theorem take_ok {n X L p : Nat} (h : p + n ≤ L) : take n X L p = .ok (X / 2 ^ p % 2 ^ n) (p + n) := if_pos h
theorem take_bad {n X L p : Nat} (h : ¬ p + n ≤ L) : take n X L p = .bad 3 := if_neg h
def symR (o : Out) : Res Nat := if o.bad then .bad 3 else if o.ok then .ok o.v o.p else .bad 2
def sym (g : Nat → Nat) (N : Nat) : Rdr Nat := fun X L p => symR (decF g N X L 15 p 0 0)
def align : Rdr Unit := fun _ _ p => .ok () ((p + 7) / 8 * 8)
/-- So many bytes, from a place on. -/
def bytesAt (X p : Nat) : Nat → List UInt8
  | 0 => []
  | n + 1 => bytesAt X p n ++ [UInt8.ofNat (X / 2 ^ (p + 8 * n) % 256)]
theorem bytesAt_len (X p : Nat) : ∀ n, (bytesAt X p n).length = n
  | 0 => rfl
  | n + 1 => by unfold bytesAt; rw [List.length_append, bytesAt_len X p n]; rfl
def textB (n : Nat) : Rdr (List UInt8) := fun X L p => if p + 8 * n ≤ L then .ok (bytesAt X p n) (p + 8 * n) else .bad 3
def signedP (b : Int) (f : Nat → Int × Bool) : Rdr Nat := if b < 0 then fail 2 else bind (take b.toNat) fun m => if (f m).2 = true then ret (f m).1.toNat else fail 2
noncomputable def lbits (c : Nat) : Int := (Go.Proofs.Sym.longBits_ex (c : Int)).choose
theorem lbits_is (c : Nat) : Go.Proofs.Sym.IsLongBits (c : Int) (lbits c) := (Go.Proofs.Sym.longBits_ex (c : Int)).choose_spec
noncomputable def lof (c m : Nat) : Int × Bool := ((Go.Proofs.Sym.longOf_ex (c : Int) (m : Int)).choose, (Go.Proofs.Sym.longOf_ex (c : Int) (m : Int)).choose_spec.choose)
theorem lof_is (c m : Nat) : Go.Proofs.Sym.IsLongOf (c : Int) (m : Int) (lof c m).1 (lof c m).2 := (Go.Proofs.Sym.longOf_ex (c : Int) (m : Int)).choose_spec.choose_spec
noncomputable def bof (c m : Nat) : Int × Bool := ((Go.Proofs.Sym.backOf_ex (c : Int) (m : Int)).choose, (Go.Proofs.Sym.backOf_ex (c : Int) (m : Int)).choose_spec.choose)
theorem bof_is (c m : Nat) : Go.Proofs.Sym.IsBackOf (c : Int) (m : Int) (bof c m).1 (bof c m).2 := (Go.Proofs.Sym.backOf_ex (c : Int) (m : Int)).choose_spec.choose_spec
/-- Codes by which symbols are read: lengths of so many symbols; of no codes there is no symbol. -/
structure Cds where
  g : Nat → Nat
  n : Nat
  any : Bool
def Cds.read (c : Cds) : Rdr Nat := if c.any = true then sym c.g c.n else fail 2
def copyT (l : List UInt8) (m : Nat) : Nat → List UInt8
  | 0 => l
  | j + 1 => copyT l m j ++ [(copyT l m j).getD ((copyT l m j).length - m) 0]
theorem copyT_len (l : List UInt8) (m : Nat) : ∀ j, (copyT l m j).length = l.length + j
  | 0 => rfl
  | j + 1 => by unfold copyT; rw [List.length_append, copyT_len l m j]; rfl
/-- What becomes of bytes as a copy is put. -/
def repeatP (most : Nat) (out : List UInt8) (long back : Nat) : Rdr (List UInt8) := if back ≤ out.length then (if out.length + long ≤ most then ret (copyT out back long) else fail 4) else fail 2
noncomputable def symsF (a b : Cds) (most : Nat) : Nat → List UInt8 → Rdr (List UInt8)
  | 0, _ => fail 9
  | F + 1, out => bind a.read fun c => if c = 256 then ret out else if c < 256 then (if out.length + 1 ≤ most then symsF a b most F (out ++ [UInt8.ofNat c]) else fail 4) else
      bind (signedP (lbits c) (lof c)) fun long => bind b.read fun d => bind (signedP (Go.Proofs.Sym.backBits (d : Int)) (bof d)) fun back => bind (repeatP most out long back) fun out' => symsF a b most F out'
def storedP (most : Nat) (out : List UInt8) : Rdr (List UInt8) := bind align fun _ => bind (take 16) fun n => bind (take 16) fun m => if n + m = 65535 then
  (bind (textB n) fun l => if out.length + n ≤ most then ret (out ++ l) else fail 4) else fail 2
def ord (i : Nat) : Nat := ([16, 17, 18, 0, 8, 7, 9, 6, 10, 5, 11, 4, 12, 3, 13, 2, 14, 1, 15] : List Nat).getD i 0
def upd (f : Nat → Nat) (i v j : Nat) : Nat := if j = i then v else f j
def lolF : Nat → Nat → (Nat → Nat) → Rdr (Nat → Nat)
  | 0, _, f => ret f
  | k + 1, i, f => bind (take 3) fun v => lolF k (i + 1) (upd f (ord i) v)
def runP (c : Nat) (l : List Nat) : Rdr (Nat × Nat) :=
  if c = 16 then (if l.length = 0 then fail 2 else bind (take 2) fun t => ret (l.getD (l.length - 1) 0, 3 + t)) else
  if c = 17 then bind (take 3) fun t => ret (0, 3 + t) else if c = 18 then bind (take 7) fun t => ret (0, 11 + t) else ret (c, 1)
def rowF (g : Nat → Nat) (long : Nat) : Nat → List Nat → Rdr (List Nat)
  | 0, _ => fail 9
  | F + 1, l => if l.length < long then (bind (sym g 19) fun c => bind (runP c l) fun r => if l.length + r.2 ≤ long then rowF g long F (l ++ List.replicate r.2 r.1) else fail 2) else ret l
def usedT (x : Nat → Nat) : Nat → Nat
  | 0 => 0
  | i + 1 => usedT x i + if x i = 0 then 0 else 1
def lastT (x : Nat → Nat) : Nat → Nat
  | 0 => 0
  | i + 1 => if x i = 0 then lastT x i else x i
/-- May a block have these own lengths? -/
def lensOk (x : Nat → Nat) (n : Nat) : Prop := (usedT x n = 1 ∧ lastT x n = 1) ∨ kindOf (wT x n) = 1
instance (x : Nat → Nat) (n : Nat) : Decidable (lensOk x n) := by unfold lensOk; infer_instance
def fnL (l : List Nat) (i : Nat) : Nat := l.getD i 0
def tabOk (l : List Nat) (n : Nat) : Prop := 0 < fnL l 256 ∧ lensOk (fnL (l.take n)) n ∧ (kindOf (wT (fnL (l.drop n)) (l.length - n)) = 0 ∨ lensOk (fnL (l.drop n)) (l.length - n))
instance (l : List Nat) (n : Nat) : Decidable (tabOk l n) := by unfold tabOk; infer_instance
def tablesP (F : Nat) : Rdr (List Nat × List Nat) := bind (take 5) fun a => bind (take 5) fun b => bind (take 4) fun k => if a + 257 ≤ 286 ∧ b + 1 ≤ 30 then
  (bind (lolF (k + 4) 0 (fun _ => 0)) fun f => if kindOf (wT f 19) = 1 then (bind (rowF f (a + 257 + (b + 1)) F []) fun l => if tabOk l (a + 257) then ret (l.take (a + 257), l.drop (a + 257)) else fail 2) else fail 2) else fail 2
def cdsOf (l : List Nat) : Cds := ⟨fnL l, l.length, decide (kindOf (wT (fnL l) l.length) = 1 ∨ kindOf (wT (fnL l) l.length) = 2)⟩
def fixA : List Nat := List.replicate 144 8 ++ List.replicate 112 9 ++ List.replicate 24 7 ++ List.replicate 8 8
def fixB : List Nat := List.replicate 32 5
noncomputable def blockP (most F kind : Nat) (out : List UInt8) : Rdr (List UInt8) :=
  if kind = 0 then storedP most out else if kind = 1 then symsF (cdsOf fixA) (cdsOf fixB) most F out else if kind = 2 then (bind (tablesP F) fun t => symsF (cdsOf t.1) (cdsOf t.2) most F out) else fail 2
noncomputable def blocksF (most K : Nat) : Nat → List UInt8 → Rdr (List UInt8)
  | 0, _ => fail 9
  | F + 1, out => bind (take 1) fun last => bind (take 2) fun kind => bind (blockP most K kind out) fun out' => if last = 1 then ret out' else blocksF most K F out'

/-- What is read well reaches no further than there is; bits behind it change nothing; where bits of it are missing it is told so. -/
structure Good {α : Type} (f : Rdr α) : Prop where
  mono : ∀ X L p a q, 8 ∣ L → p ≤ L → f X L p = .ok a q → p ≤ q ∧ q ≤ L
  ext : ∀ X L p a q X' L', 8 ∣ L → p ≤ L → f X L p = .ok a q → q ≤ L' → X % 2 ^ q = X' % 2 ^ q → f X' L' p = .ok a q
  cut : ∀ X L p a q X' L', 8 ∣ L → 8 ∣ L' → p ≤ L → f X L p = .ok a q → p ≤ L' → L' < q → X % 2 ^ L' = X' % 2 ^ L' → f X' L' p = .bad 3
theorem mod_le {X X' n m : Nat} (h : X % 2 ^ n = X' % 2 ^ n) (hm : m ≤ n) : X % 2 ^ m = X' % 2 ^ m := by
  have e : ∀ Y : Nat, Y % 2 ^ m = Y % 2 ^ n % 2 ^ m := fun Y => (Nat.mod_mod_of_dvd Y (Nat.pow_dvd_pow 2 hm)).symm
  rw [e X, e X', h]
theorem part_eq {X X' q p n : Nat} (h : X % 2 ^ q = X' % 2 ^ q) (hn : p + n ≤ q) : X / 2 ^ p % 2 ^ n = X' / 2 ^ p % 2 ^ n := by
  have e : ∀ Y : Nat, Y / 2 ^ p % 2 ^ n = Y % 2 ^ (p + n) / 2 ^ p := fun Y => by rw [Nat.pow_add, Nat.mod_mul_right_div_self]
  rw [e X, e X', mod_le h hn]
theorem good_ret {α : Type} (a : α) : Good (ret a) :=
  ⟨fun X L p a' q _ hp h => by cases h; exact ⟨Nat.le_refl _, hp⟩, fun X L p a' q X' L' _ _ h _ _ => by cases h; rfl, fun X L p a' q X' L' _ _ _ h hp hq _ => by cases h; omega⟩
theorem good_fail {α : Type} (e : Nat) : Good (fail e : Rdr α) :=
  ⟨fun X L p a' q _ _ h => (by cases h), fun X L p a' q X' L' _ _ h _ _ => (by cases h), fun X L p a' q X' L' _ _ _ h _ _ _ => (by cases h)⟩
theorem bind_of {α β : Type} {f : Rdr α} {g : α → Rdr β} {X L p : Nat} {b : β} {q : Nat} (h : bind f g X L p = .ok b q) : ∃ a m, f X L p = .ok a m ∧ g a X L m = .ok b q := by
  unfold bind at h
  cases e : f X L p with
  | ok a m => rw [e] at h; exact ⟨a, m, rfl, h⟩
  | bad e' => rw [e] at h; cases h
theorem good_bind {α β : Type} {f : Rdr α} {g : α → Rdr β} (hf : Good f) (hg : ∀ a, Good (g a)) : Good (bind f g) := by
  refine ⟨fun X L p b q h8 hp h => ?_, fun X L p b q X' L' h8 hp h hq hX => ?_, fun X L p b q X' L' h8 h8' hp h hp' hq hX => ?_⟩
  · obtain ⟨a, m, h1, h2⟩ := bind_of h
    obtain ⟨i1, i2⟩ := hf.mono _ _ _ _ _ h8 hp h1
    obtain ⟨j1, j2⟩ := (hg a).mono _ _ _ _ _ h8 i2 h2
    exact ⟨by omega, j2⟩
  · obtain ⟨a, m, h1, h2⟩ := bind_of h
    obtain ⟨i1, i2⟩ := hf.mono _ _ _ _ _ h8 hp h1
    obtain ⟨j1, j2⟩ := (hg a).mono _ _ _ _ _ h8 i2 h2
    rw [bind_ok (hf.ext _ _ _ _ _ X' L' h8 hp h1 (by omega) (mod_le hX j1))]
    exact (hg a).ext _ _ _ _ _ X' L' h8 i2 h2 hq hX
  · obtain ⟨a, m, h1, h2⟩ := bind_of h
    obtain ⟨i1, i2⟩ := hf.mono _ _ _ _ _ h8 hp h1
    by_cases hm : L' < m
    · exact bind_bad (hf.cut _ _ _ _ _ X' L' h8 h8' hp h1 hp' hm hX)
    · rw [bind_ok (hf.ext _ _ _ _ _ X' L' h8 hp h1 (by omega) (mod_le hX (by omega)))]
      exact (hg a).cut _ _ _ _ _ X' L' h8 h8' i2 h2 (by omega) hq hX
theorem good_ite {α : Type} {c : Prop} [Decidable c] {f g : Rdr α} (hf : Good f) (hg : Good g) : Good (if c then f else g) := by
  split
  · exact hf
  · exact hg
theorem good_take (n : Nat) : Good (take n) := by
  refine ⟨fun X L p a q _ hp h => ?_, fun X L p a q X' L' _ hp h hq hX => ?_, fun X L p a q X' L' _ _ hp h hp' hq hX => ?_⟩
  · unfold take at h
    split at h
    · cases h; exact ⟨by omega, by assumption⟩
    · cases h
  · unfold take at h
    split at h
    · cases h
      rw [take_ok hq, part_eq hX (Nat.le_refl _)]
    · cases h
  · unfold take at h
    split at h
    · cases h
      exact take_bad (by omega)
    · cases h
theorem good_align : Good align := by
  refine ⟨fun X L p a q h8 hp h => ?_, fun X L p a q X' L' _ hp h hq hX => ?_, fun X L p a q X' L' _ h8 hp h hp' hq hX => ?_⟩
  · cases h; omega
  · cases h; rfl
  · cases h; omega
theorem bytesAt_eq {X X' q p : Nat} (h : X % 2 ^ q = X' % 2 ^ q) : ∀ n, p + 8 * n ≤ q → bytesAt X p n = bytesAt X' p n
  | 0, _ => rfl
  | n + 1, hn => by
    unfold bytesAt
    have e := part_eq (p := p + 8 * n) (n := 8) h (by omega)
    rw [bytesAt_eq h n (by omega), show (256 : Nat) = 2 ^ 8 from rfl, e]
theorem good_text (n : Nat) : Good (textB n) := by
  refine ⟨fun X L p a q _ hp h => ?_, fun X L p a q X' L' _ hp h hq hX => ?_, fun X L p a q X' L' _ _ hp h hp' hq hX => ?_⟩
  · unfold textB at h
    split at h
    · cases h; exact ⟨by omega, by assumption⟩
    · cases h
  · unfold textB at h
    split at h
    · cases h
      unfold textB
      rw [if_pos hq, bytesAt_eq hX n (Nat.le_refl _)]
    · cases h
  · unfold textB at h
    split at h
    · cases h
      unfold textB
      rw [if_neg (by omega)]
    · cases h
theorem bit_eq {X X' q p : Nat} (h : X % 2 ^ q = X' % 2 ^ q) (hp : p < q) : bitN X p = bitN X' p := by
  have := part_eq (p := p) (n := 1) h (by omega)
  simpa [bitN] using this
theorem dec_stays (g : Nat → Nat) (N X L : Nat) : ∀ f p n v, (decF g N X L f p n v).bad = false → (decF g N X L f p n v).ok = true →
    p < (decF g N X L f p n v).p ∧ (decF g N X L f p n v).p ≤ L ∧ (∀ X' L', (decF g N X L f p n v).p ≤ L' → X % 2 ^ (decF g N X L f p n v).p = X' % 2 ^ (decF g N X L f p n v).p → decF g N X' L' f p n v = decF g N X L f p n v) ∧
      (∀ X' L', p ≤ L' → L' < (decF g N X L f p n v).p → X % 2 ^ L' = X' % 2 ^ L' → (decF g N X' L' f p n v).bad = true)
  | 0, _, _, _, _, h => by simp [decF] at h
  | f + 1, p, n, v, hb, ho => by
    by_cases c : p < L
    · cases hq : findT g N N (n + 1) (2 * v + bitN X p) with
      | some i =>
        have e := dec_hit (f := f) c hq
        rw [e]
        refine ⟨by simp, c, fun X' L' hL hX => ?_, fun X' L' hp hL hX => ?_⟩
        · simp only at hL hX
          exact dec_hit (by omega) (by rw [← bit_eq hX (by omega)]; exact hq)
        · simp only at hL
          rw [dec_miss (by omega)]
      | none =>
        have e := dec_on (f := f) c hq
        rw [e] at hb ho ⊢
        obtain ⟨i1, i2, i3, i4⟩ := dec_stays g N X L f (p + 1) (n + 1) _ hb ho
        refine ⟨by omega, i2, fun X' L' hL hX => ?_, fun X' L' hp hL hX => ?_⟩
        · have e2 : bitN X p = bitN X' p := bit_eq hX (by omega)
          rw [dec_on (by omega) (by rw [← e2]; exact hq), ← e2]
          exact i3 X' L' hL hX
        · by_cases hpl : p < L'
          · have e2 : bitN X p = bitN X' p := bit_eq hX hpl
            rw [dec_on hpl (by rw [← e2]; exact hq), ← e2]
            exact i4 X' L' (by omega) hL hX
          · rw [dec_miss hpl]
    · rw [dec_miss c] at hb; cases hb
theorem sym_of {g : Nat → Nat} {N X L p v q : Nat} (h : sym g N X L p = .ok v q) : (decF g N X L 15 p 0 0).bad = false ∧ (decF g N X L 15 p 0 0).ok = true ∧ v = (decF g N X L 15 p 0 0).v ∧ q = (decF g N X L 15 p 0 0).p := by
  unfold sym symR at h
  generalize decF g N X L 15 p 0 0 = o at h
  cases hb : o.bad <;> cases ho : o.ok <;> simp [hb, ho] at h
  exact ⟨rfl, rfl, h.1.symm, h.2.symm⟩
theorem good_sym (g : Nat → Nat) (N : Nat) : Good (sym g N) := by
  refine ⟨fun X L p a q _ hp h => ?_, fun X L p a q X' L' _ hp h hq hX => ?_, fun X L p a q X' L' _ _ hp h hp' hq hX => ?_⟩
  · obtain ⟨h1, h2, rfl, rfl⟩ := sym_of h
    obtain ⟨i1, i2, _⟩ := dec_stays g N X L 15 p 0 0 h1 h2
    exact ⟨by omega, i2⟩
  · obtain ⟨h1, h2, rfl, rfl⟩ := sym_of h
    obtain ⟨_, _, i3, _⟩ := dec_stays g N X L 15 p 0 0 h1 h2
    rw [← h]
    unfold sym
    rw [i3 X' L' hq hX]
  · obtain ⟨h1, h2, rfl, rfl⟩ := sym_of h
    obtain ⟨_, _, _, i4⟩ := dec_stays g N X L 15 p 0 0 h1 h2
    unfold sym symR
    rw [i4 X' L' hp' hq hX]
    rfl
theorem good_cds (c : Cds) : Good c.read := good_ite (good_sym _ _) (good_fail _)
theorem good_signed (b : Int) (f : Nat → Int × Bool) : Good (signedP b f) := good_ite (good_fail _) (good_bind (good_take _) fun _ => good_ite (good_ret _) (good_fail _))
theorem good_repeat (most : Nat) (out : List UInt8) (long back : Nat) : Good (repeatP most out long back) := good_ite (good_ite (good_ret _) (good_fail _)) (good_fail _)
theorem good_syms (a b : Cds) (most : Nat) : ∀ F out, Good (symsF a b most F out)
  | 0, _ => good_fail _
  | F + 1, out => by
    unfold symsF
    exact good_bind (good_cds a) fun c => good_ite (good_ret _) (good_ite (good_ite (good_syms a b most F _) (good_fail _)) (good_bind (good_signed _ _) fun _ => good_bind (good_cds b) fun _ => good_bind (good_signed _ _) fun _ => good_bind (good_repeat _ _ _ _) fun _ => good_syms a b most F _))
theorem good_stored (most : Nat) (out : List UInt8) : Good (storedP most out) :=
  good_bind good_align fun _ => good_bind (good_take _) fun _ => good_bind (good_take _) fun _ => good_ite (good_bind (good_text _) fun _ => good_ite (good_ret _) (good_fail _)) (good_fail _)
theorem good_lol : ∀ k i f, Good (lolF k i f)
  | 0, _, _ => good_ret _
  | k + 1, i, f => by unfold lolF; exact good_bind (good_take _) fun _ => good_lol k _ _
theorem good_run (c : Nat) (l : List Nat) : Good (runP c l) :=
  good_ite (good_ite (good_fail _) (good_bind (good_take _) fun _ => good_ret _)) (good_ite (good_bind (good_take _) fun _ => good_ret _) (good_ite (good_bind (good_take _) fun _ => good_ret _) (good_ret _)))
theorem good_row (g : Nat → Nat) (long : Nat) : ∀ F l, Good (rowF g long F l)
  | 0, _ => good_fail _
  | F + 1, l => by unfold rowF; exact good_ite (good_bind (good_sym _ _) fun _ => good_bind (good_run _ _) fun _ => good_ite (good_row g long F _) (good_fail _)) (good_ret _)
theorem good_tables (F : Nat) : Good (tablesP F) :=
  good_bind (good_take _) fun _ => good_bind (good_take _) fun _ => good_bind (good_take _) fun _ => good_ite (good_bind (good_lol _ _ _) fun _ => good_ite (good_bind (good_row _ _ _ _) fun _ => good_ite (good_ret _) (good_fail _)) (good_fail _)) (good_fail _)
theorem good_block (most F kind : Nat) (out : List UInt8) : Good (blockP most F kind out) :=
  good_ite (good_stored _ _) (good_ite (good_syms _ _ _ _ _) (good_ite (good_bind (good_tables _) fun _ => good_syms _ _ _ _ _) (good_fail _)))
theorem good_blocks (most K : Nat) : ∀ F out, Good (blocksF most K F out)
  | 0, _ => good_fail _
  | F + 1, out => by unfold blocksF; exact good_bind (good_take _) fun _ => good_bind (good_take _) fun _ => good_bind (good_block _ _ _ _) fun _ => good_ite (good_ret _) (good_blocks most K F _)

/-- The room that bytes have: what was read well takes as much as it is; with less it is told so. -/
def Room (h : Nat → List UInt8 → Rdr (List UInt8)) : Prop := ∀ most out X L p out' q, out.length ≤ most → h most out X L p = .ok out' q →
  out.length ≤ out'.length ∧ out'.length ≤ most ∧ (∀ m, out'.length ≤ m → h m out X L p = .ok out' q) ∧ (∀ m, out.length ≤ m → m < out'.length → h m out X L p = .bad 4)
theorem room_fail (e : Nat) : Room fun _ _ => fail e := fun most out X L p out' q _ h => by cases h
theorem room_ret : Room fun _ out => ret out := fun most out X L p out' q ho h => by
  cases h
  exact ⟨Nat.le_refl _, ho, fun m _ => rfl, fun m h1 h2 => by omega⟩
/-- What is read first hangs on no room. -/
theorem room_bind {α : Type} {f : Rdr α} {h : α → Nat → List UInt8 → Rdr (List UInt8)} (hh : ∀ a, Room (h a)) : Room fun most out => bind f fun a => h a most out := by
  intro most out X L p out' q ho he
  obtain ⟨a, m, h1, h2⟩ := bind_of he
  obtain ⟨i1, i2, i3, i4⟩ := hh a most out X L m out' q ho h2
  exact ⟨i1, i2, fun m hm => (bind_ok h1).trans (i3 m hm), fun m hm hl => (bind_ok h1).trans (i4 m hm hl)⟩
theorem room_ite {c : Prop} [Decidable c] {f g : Nat → List UInt8 → Rdr (List UInt8)} (hf : Room f) (hg : Room g) : Room fun most out => if c then f most out else g most out := by
  by_cases h : c
  · simp only [if_pos h]; exact hf
  · simp only [if_neg h]; exact hg
/-- Bytes more, by a step that asks for room; then on. -/
theorem room_step {e : List UInt8 → List UInt8} {h : Nat → List UInt8 → Rdr (List UInt8)} (he : ∀ out, out.length ≤ (e out).length) (hh : Room h) : Room fun most out => if (e out).length ≤ most then h most (e out) else fail 4 := by
  intro most out X L p out' q ho hr
  by_cases hc : (e out).length ≤ most
  · simp only [if_pos hc] at hr
    obtain ⟨i1, i2, i3, i4⟩ := hh most (e out) X L p out' q hc hr
    have := he out
    refine ⟨by omega, i2, fun m hm => ?_, fun m hm hl => ?_⟩
    · simp only
      rw [if_pos (by omega)]; exact i3 m hm
    · simp only
      by_cases hc2 : (e out).length ≤ m
      · rw [if_pos hc2]; exact i4 m hc2 hl
      · rw [if_neg hc2]; rfl
  · simp only [if_neg hc] at hr
    cases hr
theorem room_seq {f h : Nat → List UInt8 → Rdr (List UInt8)} (hf : Room f) (hh : Room h) : Room fun most out => bind (f most out) fun o => h most o := by
  intro most out X L p out' q ho hr
  obtain ⟨a, k, h1, h2⟩ := bind_of hr
  obtain ⟨i1, i2, i3, i4⟩ := hf most out X L p a k ho h1
  obtain ⟨j1, j2, j3, j4⟩ := hh most a X L k out' q i2 h2
  refine ⟨by omega, j2, fun m hm => ?_, fun m hm hl => ?_⟩
  · simp only
    rw [bind_ok (i3 m (by omega))]; exact j3 m hm
  · simp only
    by_cases hc : a.length ≤ m
    · rw [bind_ok (i3 m hc)]; exact j4 m hc hl
    · exact bind_bad (i4 m hm (by omega))
theorem room_repeat (long back : Nat) : Room fun most out => repeatP most out long back := by
  intro most out X L p out' q ho hr
  replace hr : (if back ≤ out.length then (if out.length + long ≤ most then ret (copyT out back long) else fail 4) else fail 2 : Rdr (List UInt8)) X L p = .ok out' q := hr
  split at hr
  · rename_i hb
    split at hr
    · rename_i hl
      cases hr
      have hlen := copyT_len out back long
      refine ⟨by omega, by omega, fun m hm => ?_, fun m hm h2 => ?_⟩
      · simp only; unfold repeatP; rw [if_pos hb, if_pos (by omega)]; rfl
      · simp only; unfold repeatP; rw [if_pos hb, if_neg (by omega)]; rfl
    · cases hr
  · cases hr
theorem room_syms (a b : Cds) : ∀ F, Room fun most out => symsF a b most F out
  | 0 => room_fail _
  | F + 1 => by
    unfold symsF
    refine room_bind fun c => room_ite room_ret (room_ite ?_ (room_bind fun _ => room_bind fun _ => room_bind fun _ => room_seq (room_repeat _ _) (room_syms a b F)))
    have := room_step (e := fun out => out ++ [UInt8.ofNat c]) (fun out => by simp) (room_syms a b F)
    simpa using this
theorem room_stored : Room storedP := by
  unfold storedP
  refine room_bind fun _ => room_bind fun n => room_bind fun m => room_ite ?_ (room_fail _)
  intro most out X L p out' q ho hr
  obtain ⟨l, k, h1, h2⟩ := bind_of hr
  have hl : l.length = n := by
    unfold textB at h1
    split at h1
    · cases h1; exact bytesAt_len _ _ _
    · cases h1
  split at h2
  · cases h2
    refine ⟨by simp, by simp; omega, fun m hm => ?_, fun m hm h3 => ?_⟩
    · simp only; rw [bind_ok h1, if_pos (by simp at hm; omega)]; rfl
    · simp only; rw [bind_ok h1, if_neg (by simp at h3; omega)]; rfl
  · cases h2
theorem room_block (F kind : Nat) : Room fun most out => blockP most F kind out := by
  unfold blockP
  exact room_ite room_stored (room_ite (room_syms _ _ _) (room_ite (room_bind fun _ => room_syms _ _ _) (room_fail _)))
theorem room_blocks (K : Nat) : ∀ F, Room fun most out => blocksF most K F out
  | 0 => room_fail _
  | F + 1 => by
    unfold blocksF
    exact room_bind fun last => room_bind fun kind => room_seq (room_block K kind) (room_ite room_ret (room_blocks K F))
end Inf
end Go.Proofs.Ytlfohihmkfphhaa
