/-
  Contracts of the functions of chapter 2 that ask whether a number is an amount or a mode, and tell it (the specification's and the program's), each for every argument.
-/
import Derived.Test.YteajjaenmbigeaaModes
import Derived.Test.YteajjaenmbigeaaAmt
namespace Go.Proofs.Yteajjaenmbigeaa
open Go.ChangeShapes Go.WideShapes Go.ChangeAt Go.RowKit
set_option linter.unusedVariables false


theorem specTold_any (n : Int) (w : World) :
    Calls Try.prog 8 #[.int .i64 n] w fun e w' => e = .returned (.tuple #[.int .i64 (told1 n), .int .i64 (told2 n)]) ∧ w' = w := by
  unfold told1 told2
  cases h : amtB n
  all_goals
    go_enter Try.func8, Try.ntmps8
    go_wp2_with (go_at_call 16; refine (specMoney_any _ _).mono ?_; rintro e w' ⟨rfl, rfl⟩)
    go_ret2
    exact ⟨rfl, rfl⟩



theorem implTold_any (n : Int) (w : World) :
    Calls Try.prog 14 #[.int .i64 n] w fun e w' => e = .returned (.tuple #[.int .i64 (told1 n), .int .i64 (told2 n)]) ∧ w' = w := by
  unfold told1 told2
  cases h : amtB n
  all_goals
    go_enter Try.func14, Try.ntmps14
    go_wp2_with (go_at_call 20; refine (implMoney_any _ _).mono ?_; rintro e w' ⟨rfl, rfl⟩)
    go_ret2
    exact ⟨rfl, rfl⟩



theorem mul_bound (a n k l : Int) (h1 : -k ≤ a) (h2 : a ≤ k) (h3 : 0 ≤ n) (h4 : n ≤ l) (hk : 0 ≤ k) : -(k * l) ≤ a * n ∧ a * n ≤ k * l := by
  have h5 : a * n ≤ k * n := Int.mul_le_mul_of_nonneg_right h2 h3
  have h6 : -k * n ≤ a * n := Int.mul_le_mul_of_nonneg_right h1 h3
  have h7 : k * n ≤ k * l := Int.mul_le_mul_of_nonneg_left h4 hk
  rw [Int.neg_mul] at h6
  omega

end Go.Proofs.Yteajjaenmbigeaa
