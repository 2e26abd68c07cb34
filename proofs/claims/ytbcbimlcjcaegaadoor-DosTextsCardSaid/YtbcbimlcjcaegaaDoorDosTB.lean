/- WALKS: the time of a text. -/
import Derived.Test.YtbcbimlcjcaegaaDoorDosTA
import Derived.Test.YtbcbimlcjcaegaaDoorDosO
namespace Go.Proofs.YtbcbimlcjcaegaaDoor
set_option linter.unusedVariables false
open Go.RowKit
open Go.Proofs.Dos
attribute [local go_sem ↓] Go.wp_at_zero Go.wp_at_succ

theorem full_data (y m d h n s : Nat) : (full y m d h n s).data = #[UInt8.ofNat (48 + y / 1000), UInt8.ofNat (48 + y / 100 % 10), UInt8.ofNat (48 + y / 10 % 10), UInt8.ofNat (48 + y % 10), 45, UInt8.ofNat (48 + m / 10), UInt8.ofNat (48 + m % 10), 45, UInt8.ofNat (48 + d / 10), UInt8.ofNat (48 + d % 10), 32, UInt8.ofNat (48 + h / 10), UInt8.ofNat (48 + h % 10), 58, UInt8.ofNat (48 + n / 10), UInt8.ofNat (48 + n % 10), 58, UInt8.ofNat (48 + s / 10), UInt8.ofNat (48 + s % 10)] := by
  unfold full two four
  simp
theorem ext_ (a0 a1 a2 a3 a4 a5 a6 a7 a8 a9 b0 b1 b2 b3 b4 b5 b6 b7 b8 : UInt8) :
  ((⟨#[a0, a1, a2, a3, a4, a5, a6, a7, a8, a9, b0, b1, b2, b3, b4, b5, b6, b7, b8]⟩ : ByteArray).extract 0 4).data.toList = [a0, a1, a2, a3] ∧
  ((⟨#[a0, a1, a2, a3, a4, a5, a6, a7, a8, a9, b0, b1, b2, b3, b4, b5, b6, b7, b8]⟩ : ByteArray).extract 5 7).data.toList = [a5, a6] ∧
  ((⟨#[a0, a1, a2, a3, a4, a5, a6, a7, a8, a9, b0, b1, b2, b3, b4, b5, b6, b7, b8]⟩ : ByteArray).extract 8 10).data.toList = [a8, a9] ∧
  ((⟨#[a0, a1, a2, a3, a4, a5, a6, a7, a8, a9, b0, b1, b2, b3, b4, b5, b6, b7, b8]⟩ : ByteArray).extract 11 13).data.toList = [b1, b2] ∧
  ((⟨#[a0, a1, a2, a3, a4, a5, a6, a7, a8, a9, b0, b1, b2, b3, b4, b5, b6, b7, b8]⟩ : ByteArray).extract 14 16).data.toList = [b4, b5] ∧
  ((⟨#[a0, a1, a2, a3, a4, a5, a6, a7, a8, a9, b0, b1, b2, b3, b4, b5, b6, b7, b8]⟩ : ByteArray).extract 17 19).data.toList = [b7, b8] := by
  refine ⟨?_, ?_, ?_, ?_, ?_, ?_⟩ <;> rfl
theorem four_two (y : Nat)  : two (y / 100) ++ two (y % 100) = four y := by
  unfold two four
  have e1 : y / 100 / 10 = y / 1000 := by omega
  have e2 : y % 100 / 10 = y / 10 % 10 := by omega
  have e3 : y % 100 % 10 = y % 10 := by omega
  rw [e1, e2, e3]
  apply ByteArray.ext
  simp

/-- The numbers of a text. -/
def nums (s : ByteArray) : T := ⟨numB (s.extract 0 4), numB (s.extract 5 7), numB (s.extract 8 10), numB (s.extract 11 13), numB (s.extract 14 16), numB (s.extract 17 19)⟩

theorem numB_of {s : ByteArray} {l : List UInt8} (h : s.data.toList = l) : numB s = numL l := by unfold numB numL; rw [h]

theorem nums_full (y m d h n s : Nat) (hy0 : 1980 ≤ y) (hy1 : y ≤ 2107) (hm : m < 100) (hd : d < 100) (hh : h < 100) (hn : n < 100) (hs : s < 100) :
    nums (full y m d h n s) = ⟨(y : Int), (m : Int), (d : Int), (h : Int), (n : Int), (s : Int)⟩ := by
  have e : full y m d h n s = ⟨(full y m d h n s).data⟩ := rfl
  rw [e, full_data]
  obtain ⟨g0, g1, g2, g3, g4, g5⟩ := ext_ (UInt8.ofNat (48 + y / 1000)) (UInt8.ofNat (48 + y / 100 % 10)) (UInt8.ofNat (48 + y / 10 % 10)) (UInt8.ofNat (48 + y % 10)) 45 (UInt8.ofNat (48 + m / 10)) (UInt8.ofNat (48 + m % 10)) 45 (UInt8.ofNat (48 + d / 10)) (UInt8.ofNat (48 + d % 10)) 32 (UInt8.ofNat (48 + h / 10)) (UInt8.ofNat (48 + h % 10)) 58 (UInt8.ofNat (48 + n / 10)) (UInt8.ofNat (48 + n % 10)) 58 (UInt8.ofNat (48 + s / 10)) (UInt8.ofNat (48 + s % 10))
  unfold nums
  rw [numB_of g0, numB_of g1, numB_of g2, numB_of g3, numB_of g4, numB_of g5]
  rw [show numL [UInt8.ofNat (48 + y / 1000), UInt8.ofNat (48 + y / 100 % 10), UInt8.ofNat (48 + y / 10 % 10), UInt8.ofNat (48 + y % 10)] = (y : Int) from num_four y hy0 hy1,
    show numL [UInt8.ofNat (48 + m / 10), UInt8.ofNat (48 + m % 10)] = (m : Int) from num_two m hm, show numL [UInt8.ofNat (48 + d / 10), UInt8.ofNat (48 + d % 10)] = (d : Int) from num_two d hd,
    show numL [UInt8.ofNat (48 + h / 10), UInt8.ofNat (48 + h % 10)] = (h : Int) from num_two h hh, show numL [UInt8.ofNat (48 + n / 10), UInt8.ofNat (48 + n % 10)] = (n : Int) from num_two n hn,
    show numL [UInt8.ofNat (48 + s / 10), UInt8.ofNat (48 + s % 10)] = (s : Int) from num_two s hs]

theorem full_size (y m d h n s : Nat) : (full y m d h n s).size = 19 := by
  show (full y m d h n s).data.size = 19
  rw [full_data]; rfl

theorem textB_yes {x : T} (hf : Fits x) : textB x = full x.year.toNat x.month.toNat x.day.toNat x.hour.toNat x.minute.toNat x.second.toNat := by
  unfold textB; rw [show fitsB x = true from decide_eq_true hf]; rfl

/-- The numbers of a time's text are its parts. -/
theorem nums_text {x : T} (hf : Fits x) : nums (textB x) = x := by
  rw [textB_yes hf]
  have hm := hf.month
  obtain ⟨q1, q2, q3, q4, q5, q6, q7, q8⟩ := hf
  rw [nums_full _ _ _ _ _ _ (by omega) (by omega) (by omega) (by omega) (by omega) (by omega) (by omega)]
  obtain ⟨y, m, d, h, n, s⟩ := x
  simp only at *
  congr 1 <;> omega
theorem text_size {x : T} (hf : Fits x) : (textB x).size = 19 := by rw [textB_yes hf, full_size]

/-- Is a text that of a time? -/
def okP (s : ByteArray) : Bool := decide (s.size = 19) && decide (RightT (nums s)) && decide (textB (nums s) = s)
def toldP (s : ByteArray) : Value := if okP s then .tuple #[.int .u32 (ofI (nums s)), .bool true] else .tuple #[.int .u32 0, .bool false]
theorem okP_text {x : T} (h : RightT x) : okP (textB x) = true := by
  unfold okP
  rw [nums_text h.1, text_size h.1]
  simp [h]
theorem okP_iff {s : ByteArray} : okP s = true ↔ s.size = 19 ∧ RightT (nums s) ∧ textB (nums s) = s := by
  unfold okP; simp [and_assoc]
theorem nums_ints (s : ByteArray) : Ints (nums s) := by
  have a0 := num_bd (s.extract 0 4)
  have a1 := num_bd (s.extract 5 7)
  have a2 := num_bd (s.extract 8 10)
  have a3 := num_bd (s.extract 11 13)
  have a4 := num_bd (s.extract 14 16)
  have a5 := num_bd (s.extract 17 19)
  constructor <;> simp only [nums] <;> omega

/-- A box with a text, that stays. -/
def Box (W : World) (g : Nat) (s : ByteArray) : Prop := W.heap[g]? = some (.cells #[.string s] 9 (0, 0))
theorem Box.lt {W : World} {g : Nat} {s : ByteArray} (h : Box W g s) : g < W.heap.size := (Array.getElem?_eq_some_iff.1 h).1
theorem Box.step {W W' : World} {g : Nat} {s : ByteArray} (h : Box W g s) (hB : Below W.heap.size W W') : Box W' g s := (hB.block g h.lt).trans h
theorem Box.cell {W : World} {g : Nat} {s : ByteArray} (h : Box W g s) : W.cell? ⟨g, 0, none⟩ = some (.string s) := cell_of_row _ _ _ _ _ _ h

/-- What is known between two numbers. -/
structure Par (w W : World) (s : ByteArray) : Prop where
  box : Box W w.heap.size s
  errs : Errs W
  tab : Tab W
  pow : Pow W
  below : Below w.heap.size w W
theorem Tab.step_ {w w' : World} (h : Tab w) (hB : Below w.heap.size w w') : Tab w' := h.below hB h.lt hB.size
theorem Par.step {w W W' : World} {s : ByteArray} (h : Par w W s) (hB : Below W.heap.size W W') : Par w W' s :=
  ⟨h.box.step hB, h.errs.step hB, h.tab.step_ hB, h.pow.step hB, h.below.trans (hB.mono h.below.size)⟩
theorem par_new (w : World) (s : ByteArray) (hE : Errs w) (hT : Tab w) (hP : Pow w) : Par w (w.alloc (.cells #[.string s] 9)) s :=
  have hB := (Below.refl w.heap.size w).alloc (Nat.le_refl _) (.cells #[.string s] 9)
  ⟨heap_alloc_new _ _, hE.alloc _, hT.step_ hB, hP.alloc _, hB⟩

set_option maxRecDepth 100000 in
theorem parse_short (s : ByteArray) (w : World) (hs : s.size ≤ maxLen) (h : ¬ s.size = 19) :
    Calls Tryd.prog 24 #[.string s] w fun e w' => e = .returned (.tuple #[.int .u32 0, .bool false]) ∧ Below w.heap.size w w' := by
  unfold maxLen at hs
  go_enter Tryd.func24, Tryd.ntmps24
  go_wp2_with fail
  go_returns
  exact ⟨rfl, (Below.refl _ _).alloc (Nat.le_refl _) _⟩
end Go.Proofs.YtbcbimlcjcaegaaDoor
