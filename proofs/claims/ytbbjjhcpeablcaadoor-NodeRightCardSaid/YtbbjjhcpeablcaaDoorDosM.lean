/- Plain mathematics of times: days, months, years, seconds. -/
import Derived.Laws.BitsLemmas
namespace Go.Proofs.Dos
set_option linter.unusedVariables false

/-- How many days a month has; 0, if there is no such month. -/
def daysI (y m : Int) : Int :=
  if y < 1980 ∨ 2107 < y ∨ m < 1 ∨ 12 < m then 0
  else if m = 2 then (if y % 4 = 0 ∧ y ≠ 2100 then 29 else 28)
  else if m = 4 ∨ m = 6 ∨ m = 9 ∨ m = 11 then 30 else 31

/-- How many days a year has. -/
def yd (y : Int) : Int := if y % 4 = 0 ∧ y ≠ 2100 then 366 else 365

/-- The days of the first k years. -/
def yearsN : Nat → Int
  | 0 => 0
  | k + 1 => yearsN k + yd (1980 + (k : Int))

/-- The days of a year's first k months. -/
def monthsN (y : Int) : Nat → Int
  | 0 => 0
  | k + 1 => monthsN y k + daysI y (1 + (k : Int))

theorem yd_bd (y : Int) : 365 ≤ yd y ∧ yd y ≤ 366 := by unfold yd; split <;> omega
theorem daysI_bd (y m : Int) : 0 ≤ daysI y m ∧ daysI y m ≤ 31 := by unfold daysI; repeat' split <;> omega
theorem yearsN_bd (k : Nat) : 0 ≤ yearsN k ∧ yearsN k ≤ 366 * k := by
  induction k with
  | zero => exact ⟨Int.le_refl _, Int.le_refl _⟩
  | succ k ih => have := yd_bd (1980 + (k : Int)); simp only [yearsN]; omega
theorem monthsN_bd (y : Int) (k : Nat) : 0 ≤ monthsN y k ∧ monthsN y k ≤ 31 * k := by
  induction k with
  | zero => exact ⟨Int.le_refl _, Int.le_refl _⟩
  | succ k ih => have := daysI_bd y (1 + (k : Int)); simp only [monthsN]; omega
theorem yearsN_mono {i j : Nat} (h : i ≤ j) : yearsN i ≤ yearsN j := by
  induction h with
  | refl => exact Int.le_refl _
  | step _ ih => rename_i m _; have := yd_bd (1980 + (m : Int)); simp only [yearsN]; omega
theorem monthsN_mono (y : Int) {i j : Nat} (h : i ≤ j) : monthsN y i ≤ monthsN y j := by
  induction h with
  | refl => exact Int.le_refl _
  | step _ ih => rename_i m _; have := daysI_bd y (1 + (m : Int)); simp only [monthsN]; omega

theorem months12 (y : Int) (h0 : 1980 ≤ y) (h1 : y ≤ 2107) : monthsN y 12 = yd y := by
  simp only [monthsN, daysI, yd]
  have e : ¬ (y < 1980 ∨ 2107 < y) := by omega
  by_cases h : y % 4 = 0 ∧ y ≠ 2100
  · simp only [if_pos h]; simp; omega
  · simp only [if_neg h]; simp; omega

/-- A time's parts. -/
structure T where
  year : Int
  month : Int
  day : Int
  hour : Int
  minute : Int
  second : Int

def nought : T := ⟨0, 0, 0, 0, 0, 0⟩

/-- May these parts be? (The seconds may be odd.) -/
def Fits (x : T) : Prop := 1 ≤ x.day ∧ x.day ≤ daysI x.year x.month ∧ 0 ≤ x.hour ∧ x.hour < 24 ∧ 0 ≤ x.minute ∧ x.minute < 60 ∧ 0 ≤ x.second ∧ x.second < 60
instance (x : T) : Decidable (Fits x) := by unfold Fits; infer_instance
def RightT (x : T) : Prop := Fits x ∧ x.second % 2 = 0
instance (x : T) : Decidable (RightT x) := by unfold RightT; infer_instance

theorem Fits.month {x : T} (h : Fits x) : 1980 ≤ x.year ∧ x.year ≤ 2107 ∧ 1 ≤ x.month ∧ x.month ≤ 12 ∧ x.day ≤ 31 := by
  obtain ⟨h1, h2, _⟩ := h
  have hb := daysI_bd x.year x.month
  have : ¬ (x.year < 1980 ∨ 2107 < x.year ∨ x.month < 1 ∨ 12 < x.month) := by
    intro hc
    unfold daysI at h2
    rw [if_pos hc] at h2
    omega
  omega

def splitI (t : Int) : T := ⟨1980 + t / 33554432, t / 2097152 % 16, t / 65536 % 32, t / 2048 % 32, t / 32 % 64, 2 * (t % 32)⟩
def ofI (x : T) : Int := (((((x.year - 1980) * 16 + x.month) * 32 + x.day) * 32 + x.hour) * 2048 + x.minute * 32) + x.second / 2

theorem ofI_bd {x : T} (h : RightT x) : 0 ≤ ofI x ∧ ofI x < 4294967296 := by
  have hm := h.1.month
  obtain ⟨⟨h1, h2, h3, h4, h5, h6, h7, h8⟩, h9⟩ := h
  unfold ofI; omega
theorem split_of {x : T} (h : RightT x) : splitI (ofI x) = x := by
  have hm := h.1.month
  obtain ⟨⟨h1, h2, h3, h4, h5, h6, h7, h8⟩, h9⟩ := h
  obtain ⟨y, mo, d, hh, mi, s⟩ := x
  unfold splitI ofI
  simp only at *
  congr 1 <;> omega
theorem of_split (t : Int) : ofI (splitI t) = t := by
  unfold splitI ofI; simp only; omega
theorem split_even (t : Int) : (splitI t).second % 2 = 0 := by unfold splitI; simp only; omega
theorem split_fits {t : Int} : RightT (splitI t) ↔ Fits (splitI t) := ⟨fun h => h.1, fun h => ⟨h, split_even t⟩⟩

/-- The days ahead of a time's day. -/
def daysOf (x : T) : Int := yearsN (x.year - 1980).toNat + monthsN x.year (x.month - 1).toNat + (x.day - 1)
def secsI (x : T) : Int := ((daysOf x * 24 + x.hour) * 60 + x.minute) * 60 + x.second

theorem daysOf_bd {x : T} (h : Fits x) : 0 ≤ daysOf x ∧ daysOf x ≤ 50000 := by
  have hm := h.month
  obtain ⟨h1, h2, _⟩ := h
  have a := yearsN_bd (x.year - 1980).toNat
  have b := monthsN_bd x.year (x.month - 1).toNat
  unfold daysOf; omega

theorem in_month {x : T} (h : Fits x) : monthsN x.year (x.month - 1).toNat + (x.day - 1) < monthsN x.year x.month.toNat := by
  have hm := h.month
  obtain ⟨h1, h2, _⟩ := h
  obtain ⟨k, hk⟩ : ∃ k : Nat, x.month = 1 + (k : Int) := ⟨(x.month - 1).toNat, by omega⟩
  have e1 : (x.month - 1).toNat = k := by omega
  have e2 : x.month.toNat = k + 1 := by omega
  rw [e1, e2]
  rw [hk] at h2
  simp only [monthsN]; omega

theorem in_year {x : T} (h : Fits x) : daysOf x < yearsN ((x.year - 1980).toNat + 1) := by
  have hm := h.month
  have h2 := in_month h
  have h3 := monthsN_mono x.year (show x.month.toNat ≤ 12 by omega)
  rw [months12 x.year (by omega) (by omega)] at h3
  have e : 1980 + ((x.year - 1980).toNat : Int) = x.year := by omega
  simp only [yearsN, e]
  unfold daysOf; omega

theorem mono {x y : T} (hx : RightT x) (hy : RightT y) (h : ofI x < ofI y) : secsI x < secsI y := by
  have mx := hx.1.month
  have my := hy.1.month
  have fx := hx.1
  have fy := hy.1
  obtain ⟨⟨a1, a2, a3, a4, a5, a6, a7, a8⟩, a9⟩ := hx
  obtain ⟨⟨b1, b2, b3, b4, b5, b6, b7, b8⟩, b9⟩ := hy
  unfold ofI at h
  unfold secsI
  by_cases c : x.year < y.year
  · have i := in_year fx
    have j := yearsN_mono (show (x.year - 1980).toNat + 1 ≤ (y.year - 1980).toNat by omega)
    have k := monthsN_bd y.year (y.month - 1).toNat
    have : daysOf x < daysOf y := by
      have e : daysOf y = yearsN (y.year - 1980).toNat + monthsN y.year (y.month - 1).toNat + (y.day - 1) := rfl
      omega
    omega
  · have e : x.year = y.year := by omega
    by_cases c2 : x.month < y.month
    · have i := in_month fx
      have j := monthsN_mono y.year (show x.month.toNat ≤ (y.month - 1).toNat by omega)
      have : daysOf x < daysOf y := by unfold daysOf; rw [e] at i ⊢; omega
      omega
    · have e2 : x.month = y.month := by omega
      unfold daysOf
      rw [e, e2]
      omega

theorem orders {x y : T} (hx : RightT x) (hy : RightT y) : (ofI x < ofI y ↔ secsI x < secsI y) ∧ (ofI x = ofI y ↔ secsI x = secsI y) := by
  have a := mono hx hy
  have b := mono hy hx
  have c : ofI x = ofI y → secsI x = secsI y := fun h => by
    have := split_of hx; rw [h, split_of hy] at this; rw [this]
  constructor <;> constructor <;> intro h
  · exact a h
  · by_cases h1 : ofI x < ofI y
    · exact h1
    · by_cases h2 : ofI y < ofI x
      · have := b h2; omega
      · have := c (by omega); omega
  · exact c h
  · by_cases h1 : ofI x < ofI y
    · have := a h1; omega
    · by_cases h2 : ofI y < ofI x
      · have := b h2; omega
      · omega

theorem secs_even {x : T} (h : RightT x) : secsI x % 2 = 0 := by
  have := h.2; unfold secsI; omega
theorem secs_bd {x : T} (h : Fits x) : 0 ≤ secsI x ∧ secsI x ≤ 5000000000 := by
  have := daysOf_bd h
  obtain ⟨_, _, h3, h4, h5, h6, h7, h8⟩ := h
  unfold secsI; omega

/-- The time of its own seconds is itself. -/
theorem back {x y : T} (hx : RightT x) (hy : RightT y) (h : secsI y = secsI x - secsI x % 2) : ofI y = ofI x := by
  have := secs_even hx
  exact ((orders hy hx).2).2 (by omega)

/-- Counting month by month, of one year: which months count. -/
def innerN (X M y : Int) : Nat → Int
  | 0 => 0
  | k + 1 => innerN X M y k + (if y < X ∨ 1 + (k : Int) < M then daysI y (1 + (k : Int)) else 0)
def outerN (X M : Int) : Nat → Int
  | 0 => 0
  | k + 1 => outerN X M k + innerN X M (1980 + (k : Int)) 12

theorem inner_all (X M y : Int) (h : y < X) (k : Nat) : innerN X M y k = monthsN y k := by
  induction k with
  | zero => rfl
  | succ k ih => simp only [innerN, monthsN, ih, h, true_or, if_true]
theorem inner_some (X M y : Int) (h : ¬ y < X) (k : Nat) : innerN X M y k = monthsN y (min k (M - 1).toNat) := by
  induction k with
  | zero => simp [innerN, monthsN]
  | succ k ih =>
    simp only [innerN, ih, h, false_or]
    by_cases c : 1 + (k : Int) < M
    · rw [if_pos c, Nat.min_eq_left (by omega), Nat.min_eq_left (by omega)]; rfl
    · rw [if_neg c, Nat.min_eq_right (by omega), Nat.min_eq_right (by omega)]; omega
theorem outer_all (X M : Int) (k : Nat) (h : 1980 + (k : Int) ≤ X) (hX : X ≤ 2107) : outerN X M k = yearsN k := by
  induction k with
  | zero => rfl
  | succ k ih =>
    simp only [outerN, yearsN]
    rw [ih (by omega), inner_all X M _ (by omega), months12 _ (by omega) (by omega)]
theorem outer_end {x : T} (h : Fits x) : outerN x.year x.month ((x.year - 1980).toNat + 1) = yearsN (x.year - 1980).toNat + monthsN x.year (x.month - 1).toNat := by
  have hm := h.month
  simp only [outerN]
  rw [outer_all x.year x.month _ (by omega) (by omega)]
  have e : 1980 + ((x.year - 1980).toNat : Int) = x.year := by omega
  rw [e, inner_some _ _ _ (by omega), Nat.min_eq_right (by omega)]
theorem inner_bd (X M y : Int) (k : Nat) : 0 ≤ innerN X M y k ∧ innerN X M y k ≤ 31 * k := by
  induction k with
  | zero => exact ⟨Int.le_refl _, Int.le_refl _⟩
  | succ k ih => have := daysI_bd y (1 + (k : Int)); simp only [innerN]; split <;> omega
theorem outer_bd (X M : Int) (k : Nat) : 0 ≤ outerN X M k ∧ outerN X M k ≤ 372 * k := by
  induction k with
  | zero => exact ⟨Int.le_refl _, Int.le_refl _⟩
  | succ k ih => have := inner_bd X M (1980 + (k : Int)) 12; simp only [outerN]; omega

theorem years128 : yearsN 128 = 46751 := by decide +kernel
end Go.Proofs.Dos
