/- Plain mathematics of texts of times. -/
import Derived.Lib.AtoiAll
import Derived.Lib.AtoiTie
import Derived.Laws.BitsLemmas
namespace Go.Proofs.Dos

/-- The number of a text; -1, if it is none. -/
def numB (s : ByteArray) : Int := match Lib.atoiAll s.data.toList with
  | .ok v => v
  | _ => -1

def twoL (n : Nat) : List UInt8 := [UInt8.ofNat (48 + n / 10), UInt8.ofNat (48 + n % 10)]
def fourL (n : Nat) : List UInt8 := [UInt8.ofNat (48 + n / 1000), UInt8.ofNat (48 + n / 100 % 10), UInt8.ofNat (48 + n / 10 % 10), UInt8.ofNat (48 + n % 10)]
def numL (l : List UInt8) : Int := match Lib.atoiAll l with
  | .ok v => v
  | _ => -1

theorem num_two_all : ((List.range 100).all fun n => decide (numL (twoL n) = (n : Int))) = true := by decide +kernel
theorem num_two (n : Nat) (h : n < 100) : numL (twoL n) = (n : Int) := by
  have := List.all_eq_true.1 num_two_all n (List.mem_range.2 h)
  exact of_decide_eq_true this
theorem num_four_all : ((List.range 128).all fun n => decide (numL (fourL (1980 + n)) = ((1980 + n : Nat) : Int))) = true := by decide +kernel
theorem num_four (n : Nat) (h0 : 1980 ≤ n) (h : n ≤ 2107) : numL (fourL n) = (n : Int) := by
  have := List.all_eq_true.1 num_four_all (n - 1980) (List.mem_range.2 (by omega))
  have e : 1980 + (n - 1980) = n := by omega
  rw [e] at this
  exact of_decide_eq_true this
end Go.Proofs.Dos
