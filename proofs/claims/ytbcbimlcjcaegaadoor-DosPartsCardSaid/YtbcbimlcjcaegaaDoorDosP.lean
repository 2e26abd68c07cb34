/- DosParts: the walk. -/
import Derived.Test.YtbcbimlcjcaegaaDoorDosU
import Derived.Test.YtbcbimlcjcaegaaDoorDosY
import Derived.Deep.DeepCutAuto
import Derived.Deep.RegionHeld3
import Derived.Laws.StructEq
namespace Go.Proofs.YtbcbimlcjcaegaaDoor
set_option linter.unusedVariables false
open Go.RowKit
open Go.Proofs.Dos
attribute [local go_sem ↓] Go.wp_at_zero Go.wp_at_succ

/-- The cells of a time. -/
def tC (x : T) : Array Value := #[.int .i64 x.year, .int .i64 x.month, .int .i64 x.day, .int .i64 x.hour, .int .i64 x.minute, .int .i64 x.second]

/-- A block with just these cells. -/
def Blk (W : World) (g : Nat) (cs : Array Value) (T : TypeId) : Prop := W.heap[g]? = some (.cells cs T (0, 0))
theorem Blk.lt {W : World} {g : Nat} {cs : Array Value} {T : TypeId} (h : Blk W g cs T) : g < W.heap.size := (Array.getElem?_eq_some_iff.1 h).1
theorem Blk.step {W W' : World} {g : Nat} {cs : Array Value} {T : TypeId} (h : Blk W g cs T) (hB : Below W.heap.size W W') : Blk W' g cs T := (hB.block g h.lt).trans h
theorem Blk.alloc {W : World} {g : Nat} {cs : Array Value} {T : TypeId} (h : Blk W g cs T) (o : Obj) : Blk (W.alloc o) g cs T := (Below.heap_alloc W o g h.lt).trans h
theorem Blk.new (W : World) (cs : Array Value) (T : TypeId) : Blk (W.alloc (.cells cs T)) W.heap.size cs T := heap_alloc_new _ _
theorem Blk.set {W : World} {g : Nat} {cs : Array Value} {T : TypeId} (h : Blk W g cs T) (k : Nat) (v : Value) : Blk (W.setCell ⟨g, k, none⟩ v) g (cs.setIfInBounds k v) T := heap_setCell_same W g k cs T v h
theorem Blk.other {W : World} {g : Nat} {cs : Array Value} {T : TypeId} (h : Blk W g cs T) (p : Addr) (v : Value) (hp : g ≠ p.block) : Blk (W.setCell p v) g cs T := (Below.heap_setCell W p v g hp).trans h
theorem Blk.drew {W : World} {g : Nat} {cs : Array Value} {T : TypeId} (h : Blk W g cs T) : Blk W.drew g cs T := h
theorem Blk.set6 {W : World} {g : Nat} {x : T} {τ : TypeId} (h : Blk W g (tC x) τ) (y : T) :
    Blk ((((((W.setCell ⟨g, 0, none⟩ (.int .i64 y.year)).setCell ⟨g, 1, none⟩ (.int .i64 y.month)).setCell ⟨g, 2, none⟩ (.int .i64 y.day)).setCell ⟨g, 3, none⟩ (.int .i64 y.hour)).setCell ⟨g, 4, none⟩ (.int .i64 y.minute)).setCell ⟨g, 5, none⟩ (.int .i64 y.second)) g (tC y) τ :=
  (((((h.set 0 _).set 1 _).set 2 _).set 3 _).set 4 _).set 5 _

/-- What is known of the world ahead of the comparison. -/
structure Set4 (w W : World) (g4 g5 g7 g9 : Nat) (x a b : T) (p q : Int) : Prop where
  b4 : Blk W g4 (tC x) 24
  b5 : Blk W g5 #[.int .i64 p, .int .i64 q] 25
  b7 : Blk W g7 (tC a) 26
  b9 : Blk W g9 (tC b) 24
  below : Below w.heap.size w W
theorem Set4.step {w W W' : World} {g4 g5 g7 g9 : Nat} {x a b : T} {p q : Int} (h : Set4 w W g4 g5 g7 g9 x a b p q) (hB : Below W.heap.size W W') : Set4 w W' g4 g5 g7 g9 x a b p q :=
  ⟨h.b4.step hB, h.b5.step hB, h.b7.step hB, h.b9.step hB, h.below.trans (hB.mono h.below.size)⟩
theorem Set4.drew {w W : World} {g4 g5 g7 g9 : Nat} {x a b : T} {p q : Int} (h : Set4 w W g4 g5 g7 g9 x a b p q) : Set4 w W.drew g4 g5 g7 g9 x a b p q :=
  ⟨h.b4, h.b5, h.b7, h.b9, h.below.drew⟩

theorem six4 {W : World} {g : Nat} {x : T} {τ : TypeId} (h : Blk W g (tC x) τ) :
    W.cell? ⟨g, 0, none⟩ = some (.int .i64 x.year) ∧ W.cell? ⟨g, 1, none⟩ = some (.int .i64 x.month) ∧ W.cell? ⟨g, 2, none⟩ = some (.int .i64 x.day) ∧ W.cell? ⟨g, 3, none⟩ = some (.int .i64 x.hour) ∧ W.cell? ⟨g, 4, none⟩ = some (.int .i64 x.minute) ∧ W.cell? ⟨g, 5, none⟩ = some (.int .i64 x.second) := six_ h
theorem two5 {W : World} {g : Nat} {p q : Int} {τ : TypeId} (h : Blk W g #[.int .i64 p, .int .i64 q] τ) : W.cell? ⟨g, 0, none⟩ = some (.int .i64 p) ∧ W.cell? ⟨g, 1, none⟩ = some (.int .i64 q) :=
  ⟨cell_of_row _ _ _ _ _ _ h, cell_of_row _ _ _ _ _ _ h⟩

theorem Tab.drew {w : World} (h : Tab w) : Tab w.drew := ⟨h.lt, h.cells⟩
theorem Pow.drew {w : World} (h : Pow w) : Pow w.drew := h

theorem Set4.all {w W : World} {g4 g5 g7 g9 : Nat} {x a b : T} {p q : Int} (h : Set4 w W g4 g5 g7 g9 x a b p q) : W.cell? ⟨g7, 0, none⟩ = some (.int .i64 a.year) ∧ W.cell? ⟨g7, 1, none⟩ = some (.int .i64 a.month) ∧ W.cell? ⟨g7, 2, none⟩ = some (.int .i64 a.day) ∧ W.cell? ⟨g7, 3, none⟩ = some (.int .i64 a.hour) ∧ W.cell? ⟨g7, 4, none⟩ = some (.int .i64 a.minute) ∧ W.cell? ⟨g7, 5, none⟩ = some (.int .i64 a.second) ∧ W.cell? ⟨g9, 0, none⟩ = some (.int .i64 b.year) ∧ W.cell? ⟨g9, 1, none⟩ = some (.int .i64 b.month) ∧ W.cell? ⟨g9, 2, none⟩ = some (.int .i64 b.day) ∧ W.cell? ⟨g9, 3, none⟩ = some (.int .i64 b.hour) ∧ W.cell? ⟨g9, 4, none⟩ = some (.int .i64 b.minute) ∧ W.cell? ⟨g9, 5, none⟩ = some (.int .i64 b.second) ∧ W.cell? ⟨g4, 0, none⟩ = some (.int .i64 x.year) ∧ W.cell? ⟨g4, 1, none⟩ = some (.int .i64 x.month) ∧ W.cell? ⟨g4, 2, none⟩ = some (.int .i64 x.day) ∧ W.cell? ⟨g4, 3, none⟩ = some (.int .i64 x.hour) ∧ W.cell? ⟨g4, 4, none⟩ = some (.int .i64 x.minute) ∧ W.cell? ⟨g4, 5, none⟩ = some (.int .i64 x.second) ∧ W.cell? ⟨g5, 0, none⟩ = some (.int .i64 p) ∧ W.cell? ⟨g5, 1, none⟩ = some (.int .i64 q) := by
  obtain ⟨a0, a1, a2, a3, a4, a5⟩ := six4 h.b7
  obtain ⟨b0, b1, b2, b3, b4, b5⟩ := six4 h.b9
  obtain ⟨c0, c1, c2, c3, c4, c5⟩ := six4 h.b4
  obtain ⟨d0, d1⟩ := two5 h.b5
  exact ⟨a0, a1, a2, a3, a4, a5, b0, b1, b2, b3, b4, b5, c0, c1, c2, c3, c4, c5, d0, d1⟩

theorem Set4.set9 {w W : World} {g4 g5 g7 g9 : Nat} {x a b : T} {p q : Int} (h : Set4 w W g4 g5 g7 g9 x a b p q) (y : T) (h4 : g4 < g9) (h5 : g5 < g9) (h7 : g7 < g9) (hw : w.heap.size ≤ g9) :
    Set4 w ((((((W.setCell ⟨g9, 0, none⟩ (.int .i64 y.year)).setCell ⟨g9, 1, none⟩ (.int .i64 y.month)).setCell ⟨g9, 2, none⟩ (.int .i64 y.day)).setCell ⟨g9, 3, none⟩ (.int .i64 y.hour)).setCell ⟨g9, 4, none⟩ (.int .i64 y.minute)).setCell ⟨g9, 5, none⟩ (.int .i64 y.second)) g4 g5 g7 g9 x a y p q := by
  have o : ∀ {g : Nat} {cs : Array Value} {τ : TypeId}, g < g9 → Blk W g cs τ → Blk ((((((W.setCell ⟨g9, 0, none⟩ (.int .i64 y.year)).setCell ⟨g9, 1, none⟩ (.int .i64 y.month)).setCell ⟨g9, 2, none⟩ (.int .i64 y.day)).setCell ⟨g9, 3, none⟩ (.int .i64 y.hour)).setCell ⟨g9, 4, none⟩ (.int .i64 y.minute)).setCell ⟨g9, 5, none⟩ (.int .i64 y.second)) g cs τ :=
    fun hg hb => (((((hb.other _ _ (by dsimp only; omega)).other _ _ (by dsimp only; omega)).other _ _ (by dsimp only; omega)).other _ _ (by dsimp only; omega)).other _ _ (by dsimp only; omega)).other _ _ (by dsimp only; omega)
  exact ⟨o h4 h.b4, o h5 h.b5, o h7 h.b7, h.b9.set6 y, (((((h.below.setCell hw _).setCell hw _).setCell hw _).setCell hw _).setCell hw _).setCell hw _⟩

theorem of_ex (x : T) : ∃ (c : Int) (r : Bool), toldOf x = .tuple #[.int .u32 c, .bool r] ∧ decide (RightT x) = r ∧ (r = true → c = ofI x) ∧ (r = false → c = 0) ∧ 0 ≤ c ∧ c < 4294967296 := by
  by_cases h : RightT x
  · exact ⟨_, _, toldOf_yes h, decide_eq_true h, fun _ => rfl, (fun e => by cases e), ofI_bd h⟩
  · exact ⟨_, _, toldOf_no h, decide_eq_false h, (fun e => by cases e), fun _ => rfl, by decide, by decide⟩

end Go.Proofs.YtbcbimlcjcaegaaDoor
