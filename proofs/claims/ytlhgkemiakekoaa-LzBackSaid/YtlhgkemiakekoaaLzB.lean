/- LZ: rows of tokens; the bytes of a text as tokens. -/
import Derived.Test.YtlhgkemiakekoaaLzA
namespace Go.Proofs.Ytlhgkemiakekoaa
set_option linter.unusedVariables false
open Go.RowKit
attribute [local go_sem ↓] Go.wp_at_zero Go.wp_at_succ
namespace Lz
/-- A token: a byte, how long, how far back. -/
abbrev Tok := Int × Int × Int
def cells3 (o : List Tok) : List Value := o.flatMap fun s => [Value.int .u8 s.1, .int .i64 s.2.1, .int .i64 s.2.2]
theorem cells3_cons (s : Tok) (o : List Tok) : cells3 (s :: o) = Value.int .u8 s.1 :: .int .i64 s.2.1 :: .int .i64 s.2.2 :: cells3 o := rfl
theorem cells3_len (o : List Tok) : (cells3 o).length = o.length * 3 := by
  induction o with
  | nil => rfl
  | cons s o ih => rw [cells3_cons]; simp [ih]; omega
theorem cells3_app (o : List Tok) (s : Tok) : cells3 (o ++ [s]) = cells3 o ++ [Value.int .u8 s.1, .int .i64 s.2.1, .int .i64 s.2.2] := by
  simp [cells3]
def tx (o : List Tok) (k : Nat) : Int := (o.getD k (0, 0, 0)).1
def ty (o : List Tok) (k : Nat) : Int := (o.getD k (0, 0, 0)).2.1
def tz (o : List Tok) (k : Nat) : Int := (o.getD k (0, 0, 0)).2.2
theorem cells3_at : ∀ (o : List Tok) (k : Nat), k < o.length → (cells3 o)[k * 3]? = some (.int .u8 (tx o k)) ∧ (cells3 o)[k * 3 + 1]? = some (.int .i64 (ty o k)) ∧ (cells3 o)[k * 3 + 2]? = some (.int .i64 (tz o k)) := by
  intro o
  induction o with
  | nil => intro k hk; simp at hk
  | cons s o ih =>
    intro k hk
    rw [cells3_cons]
    cases k with
    | zero => exact ⟨rfl, rfl, rfl⟩
    | succ k =>
      have := ih k (by simpa using hk)
      rw [show (k + 1) * 3 = k * 3 + 3 by omega]
      exact this
/-- Tokens that lie in a row. -/
structure ToksAt (w : World) (A : Option Addr) (b off n : Nat) (x y z : Nat → Int) : Prop where
  ad : 0 < n → A = some ⟨b, off, none⟩
  lt : 0 < n → b < w.heap.size
  at_ : ∀ k, k < n → w.cell? ⟨b, off + k * 3, none⟩ = some (.int .u8 (x k)) ∧ w.cell? ⟨b, off + k * 3 + 1, none⟩ = some (.int .i64 (y k)) ∧ w.cell? ⟨b, off + k * 3 + 2, none⟩ = some (.int .i64 (z k))
theorem ToksAt.below {w w' : World} {A : Option Addr} {b off n : Nat} {x y z : Nat → Int} (h : ToksAt w A b off n x y z) (hb : Below w.heap.size w w') : ToksAt w' A b off n x y z :=
  ⟨h.ad, fun hl => Nat.lt_of_lt_of_le (h.lt hl) hb.size, fun k hk => by
    have hl := h.lt (by omega)
    obtain ⟨h1, h2, h3⟩ := h.at_ k hk
    exact ⟨(hb.cell (p := ⟨b, _, none⟩) hl).trans h1, (hb.cell (p := ⟨b, _, none⟩) hl).trans h2, (hb.cell (p := ⟨b, _, none⟩) hl).trans h3⟩⟩
def OwnT (w : World) (B : Nat) (v : Value) (o : List Tok) : Prop := w.ownsRow B 24 3 v o.length (cells3 o)
theorem OwnT.form {w : World} {B : Nat} {v : Value} {o : List Tok} (h : OwnT w B v o) :
    ∃ (A : Option Addr) (cap g : Nat), v = .slice A o.length cap ∧ ToksAt w A g 0 o.length (tx o) (ty o) (tz o) := by
  rcases h.2 with ⟨rfl, h0⟩ | ⟨g, cap, cur, rfl, h1, h2, _⟩
  · exact ⟨none, 0, 0, by rw [h0], fun hh => absurd hh (by omega), fun hh => absurd hh (by omega), fun k hk => absurd hk (by omega)⟩
  · refine ⟨_, cap, g, rfl, fun _ => rfl, fun _ => (Array.getElem?_eq_some_iff.1 h2).1, fun k hk => ?_⟩
    obtain ⟨a1, a2, a3⟩ := cells3_at o k hk
    rw [Nat.zero_add]
    exact ⟨(World.ownsRow.cellAt h _ (by omega)).trans a1, (World.ownsRow.cellAt h _ (by omega)).trans a2, (World.ownsRow.cellAt h _ (by omega)).trans a3⟩
theorem ownT_next {w W w1 : World} {B : Nat} {v v' : Value} {o : List Tok} {s : Tok} {ob : Obj} (ho : OwnT W B v o) (hb : Below B w W) (hB : B ≤ W.heap.size)
    (h : w1.ownsRow B 24 3 v' (o.length + 1) (cells3 o ++ [.int .u8 s.1, .int .i64 s.2.1, .int .i64 s.2.2])) (hg : (W.alloc ob).grownBy w1 v.ownBlock) :
    OwnT w1 B v' (o ++ [s]) ∧ Below B w w1 := by
  refine ⟨?_, (hb.alloc hB ob).grown hg (by simp; omega) (fun k hk => (ho.lt k hk).1)⟩
  unfold OwnT
  rw [cells3_app, show (o ++ [s]).length = o.length + 1 by simp]
  exact h
theorem und22 : Try.prog.underlying 22 = some (.slice 24) := by kernel_rfl
theorem info24 : (Try.prog.info? 24).map (fun i => (i.zero, i.size, i.bytes)) = some (some (.agg #[.int .u8 0, .int .i64 0, .int .i64 0]), 3, 24) := by kernel_rfl
theorem size24 : (Try.prog.info? 24).map (·.size) = some 3 := by kernel_rfl

/-- The byte at a place. -/
def byteT (s : ByteArray) (k : Nat) : Nat := if h : k < s.size then (s[k]'h).toNat else 0
theorem byteT_eq (s : ByteArray) (k : Nat) (h : k < s.size) : (s[k]'h).toNat = byteT s k := by unfold byteT; rw [dif_pos h]
theorem byteT_lt (s : ByteArray) (k : Nat) : byteT s k < 256 := by
  unfold byteT
  split
  · exact UInt8.toNat_lt _
  · omega
def bytesT (s : ByteArray) (n : Nat) : List Tok := (List.range n).map fun k => ((byteT s k : Int), 0, 0)
theorem bytesT_len (s : ByteArray) (n : Nat) : (bytesT s n).length = n := by simp [bytesT]
theorem bytesT_succ (s : ByteArray) (n : Nat) : bytesT s (n + 1) = bytesT s n ++ [((byteT s n : Int), 0, 0)] := by simp [bytesT, List.range_succ]

set_option maxRecDepth 100000 in
set_option maxHeartbeats 1000000 in
theorem refBytes (s : ByteArray) (w : World) (hs : s.size ≤ 70000) :
    Calls Try.prog 16 #[.string s] w fun e w' => (∃ v, e = .returned v ∧ OwnT w' w.heap.size v (bytesT s s.size)) ∧ Below w.heap.size w w' := by
  obtain ⟨i0, hi, hz0, hz1, hz2⟩ := info_parts info24
  have HI := hid hi
  clear hi
  go_enter Try.func16, Try.ntmps16
  go_upto_region 3 with fail
  go_loopw [3, 4] (fun l i wr => ∃ k : Nat, k ≤ s.size ∧ i = .int .i64 k ∧ OwnT wr w.heap.size l (bytesT s k) ∧ Below w.heap.size w wr) (fun _ i _ => s.size - (intOf i).toNat)
  case atStart => exact ⟨0, Nat.zero_le _, rfl, World.ownsRow_nil _ _ _ _, Below.refl _ _⟩
  case round =>
    obtain ⟨k, hk, rfl, hown, hB⟩ := hrel
    have HB := hid hB
    have HO := hid hown
    clear hown hB
    by_cases hlt : k < s.size
    · have hlt' : (k : Int) < (s.size : Int) := by omega
      have hz := HB.out.size
      have hlen := bytesT_len s k
      have hbt := byteT_eq s k hlt
      have HK := hid (bytesT_succ s k)
      go_wp2_with (at_builtin; refine wpList_append_own _ rfl _ _ 22 rfl w.heap.size 24 i0 (.agg #[.int .u8 0, .int .i64 0, .int .i64 0]) 3 24 und22 HI.out hz0 hz1 hz2 rfl (by decide) _ _ _ rfl (HO.out.alloc _) _ 1 1 [.int .u8 (byteT s k : Nat), .int .i64 0, .int .i64 0] rfl rfl (World.news_of_block (heap_alloc_new _ _)) (by simp [Value.oneCell']) (by simp [maxLen, hlen]; omega) (by rw [hlen]; omega) (by simp only [World.alloc, Array.size_push]; omega) ?_; intro v' w8 hown8 hgrow8 _; have R := hid (ownT_next (s := ((byteT s k : Nat), 0, 0)) HO.out HB.out hz hown8 hgrow8); clear hown8 hgrow8)
      try (go_wp2_with fail)
      go_roundw
      case rel => exact ⟨k + 1, by omega, by go_num, by rw [HK.out]; exact R.out.1, R.out.2⟩
      case measure => simp [intOf]; omega
    · obtain rfl : k = s.size := by omega
      go_wp2_with fail
      go_ret
      exact ⟨⟨_, rfl, HO.out⟩, HB.out⟩
set_option maxRecDepth 100000 in
set_option maxHeartbeats 1000000 in
theorem plain (s : ByteArray) (w : World) (hs : s.size ≤ 70000) (hs2 : s.size ≤ 65000) :
    Calls Try.prog 15 #[.string s] w fun e w' => (∃ v, e = .returned v ∧ OwnT w' w.heap.size v (bytesT s s.size)) ∧ Below w.heap.size w w' := by
  obtain ⟨i0, hi, hz0, hz1, hz2⟩ := info_parts info24
  have HI := hid hi
  clear hi
  have hs' : ¬ (65000 : Int) < (s.size : Int) := by omega
  go_enter Try.func15, Try.ntmps15
  go_upto_region 5 with fail
  go_loopw [3, 10] (fun l i wr => ∃ k : Nat, k ≤ s.size ∧ i = .int .i64 k ∧ OwnT wr w.heap.size l (bytesT s k) ∧ Below w.heap.size w wr) (fun _ i _ => s.size - (intOf i).toNat)
  case atStart => exact ⟨0, Nat.zero_le _, rfl, World.ownsRow_nil _ _ _ _, Below.refl _ _⟩
  case round =>
    obtain ⟨k, hk, rfl, hown, hB⟩ := hrel
    have HB := hid hB
    have HO := hid hown
    clear hown hB
    by_cases hlt : k < s.size
    · have hlt' : (k : Int) < (s.size : Int) := by omega
      have hz := HB.out.size
      have hlen := bytesT_len s k
      have hbt := byteT_eq s k hlt
      have HK := hid (bytesT_succ s k)
      go_wp2_with (at_builtin; refine wpList_append_own _ rfl _ _ 22 rfl w.heap.size 24 i0 (.agg #[.int .u8 0, .int .i64 0, .int .i64 0]) 3 24 und22 HI.out hz0 hz1 hz2 rfl (by decide) _ _ _ rfl (HO.out.alloc _) _ 1 1 [.int .u8 (byteT s k : Nat), .int .i64 0, .int .i64 0] rfl rfl (World.news_of_block (heap_alloc_new _ _)) (by simp [Value.oneCell']) (by simp [maxLen, hlen]; omega) (by rw [hlen]; omega) (by simp only [World.alloc, Array.size_push]; omega) ?_; intro v' w8 hown8 hgrow8 _; have R := hid (ownT_next (s := ((byteT s k : Nat), 0, 0)) HO.out HB.out hz hown8 hgrow8); clear hown8 hgrow8)
      try (go_wp2_with fail)
      go_roundw
      case rel => exact ⟨k + 1, by omega, by go_num, by rw [HK.out]; exact R.out.1, R.out.2⟩
      case measure => simp [intOf]; omega
    · obtain rfl : k = s.size := by omega
      go_wp2_with fail
      go_ret
      exact ⟨⟨_, rfl, HO.out⟩, HB.out⟩
set_option maxRecDepth 100000 in
theorem plain_long (s : ByteArray) (w : World) (hs : 65000 < s.size) :
    Calls Try.prog 15 #[.string s] w fun e w' => e = .returned (.slice none 0 0) ∧ w' = w := by
  have hs' : (65000 : Int) < (s.size : Int) := by omega
  go_enter Try.func15, Try.ntmps15
  go_wp2_with fail
  go_ret
  exact ⟨rfl, rfl⟩
end Lz
end Go.Proofs.Ytlhgkemiakekoaa
