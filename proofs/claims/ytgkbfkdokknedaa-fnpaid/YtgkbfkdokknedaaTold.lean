/-
  Contracts of the functions of chapter 2 that ask whether a number is an amount or a mode, and tell it (the specification's and the program's), each for every argument.
-/
import Derived.Test.YtgkbfkdokknedaaModes
import Derived.Test.YtgkbfkdokknedaaAmt
namespace Go.Proofs.Ytgkbfkdokknedaa
open Go.ChangeShapes Go.WideShapes Go.ChangeAt Go.RowKit
set_option linter.unusedVariables false




theorem mul_bound (a n k l : Int) (h1 : -k ≤ a) (h2 : a ≤ k) (h3 : 0 ≤ n) (h4 : n ≤ l) (hk : 0 ≤ k) : -(k * l) ≤ a * n ∧ a * n ≤ k * l := by
  have h5 : a * n ≤ k * n := Int.mul_le_mul_of_nonneg_right h2 h3
  have h6 : -k * n ≤ a * n := Int.mul_le_mul_of_nonneg_right h1 h3
  have h7 : k * n ≤ k * l := Int.mul_le_mul_of_nonneg_left h4 hk
  rw [Int.neg_mul] at h6
  omega

end Go.Proofs.Ytgkbfkdokknedaa
