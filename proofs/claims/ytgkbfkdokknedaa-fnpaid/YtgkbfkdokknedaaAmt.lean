/-
  Contracts of the functions of chapter 2 that ask whether a number is an amount (the specification's and the program's), each for every number.
-/
import Derived.Test.YtgkbfkdokknedaaRate
namespace Go.Proofs.Ytgkbfkdokknedaa
open Go.ChangeShapes Go.WideShapes Go.ChangeAt Go.RowKit
set_option linter.unusedVariables false

def amtB (a : Int) : Bool := inB a (-1000000000) 1000000000
def told1 (x : Int) : Int := if amtB x = true then x else 0
def told2 (x : Int) : Int := if amtB x = true then 0 else 11
def modeB (m : Int) : Bool := inB m 1 4

theorem amtB_iff (a : Int) : amtB a = true ↔ -1000000000 ≤ a ∧ a ≤ 1000000000 := by simp [amtB, inB]
theorem modeB_iff (a : Int) : modeB a = true ↔ a = 1 ∨ a = 2 ∨ a = 3 ∨ a = 4 := by simp [modeB, inB]; omega
theorem rateB_iff (n d : Int) : rateB n d = true ↔ (0 ≤ n ∧ n ≤ 10000) ∧ 1 ≤ d ∧ d ≤ 10000 := by simp [rateB]


end Go.Proofs.Ytgkbfkdokknedaa
