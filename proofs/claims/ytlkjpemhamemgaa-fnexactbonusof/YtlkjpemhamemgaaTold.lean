/-
  Contracts of the functions of chapter 2 that ask whether a number is an amount or a mode, and tell it (the specification's and the program's), each for every argument.
-/
import Derived.Test.YtlkjpemhamemgaaModes
import Derived.Test.YtlkjpemhamemgaaAmt
namespace Go.Proofs.Ytlkjpemhamemgaa
open Go.ChangeShapes Go.WideShapes Go.ChangeAt Go.RowKit
set_option linter.unusedVariables false


theorem implTold_any (n : Int) (w : World) :
    Calls Try.prog 112 #[.int .i64 n] w fun e w' => e = .returned (.tuple #[.int .i64 (told1 n), .int .i64 (told2 n)]) ∧ w' = w := by
  unfold told1 told2
  cases h : amtB n
  all_goals
    go_enter Try.func112, Try.ntmps112
    go_wp2_with (go_at_call 109; refine (implMoney_any _ _).mono ?_; rintro e w' ⟨rfl, rfl⟩)
    go_ret2
    exact ⟨rfl, rfl⟩



theorem implMode_any (n : Int) (w : World) :
    Calls Try.prog 111 #[.int .i64 n] w fun e w' => e = .returned (.bool (modeB n)) ∧ w' = w := by
  rcases in_ways n 1 4 with h | ⟨h1, h2⟩ | ⟨h1, h2⟩
  all_goals
    go_enter Try.func111, Try.ntmps111
    go_wp2
    go_ret
    exact ⟨ret_bool (by first | exact (decide_eq_false (by omega)).symm | exact (decide_eq_true (by omega)).symm | exact decide_eq_decide.mpr (by omega)), rfl⟩

theorem mul_bound (a n k l : Int) (h1 : -k ≤ a) (h2 : a ≤ k) (h3 : 0 ≤ n) (h4 : n ≤ l) (hk : 0 ≤ k) : -(k * l) ≤ a * n ∧ a * n ≤ k * l := by
  have h5 : a * n ≤ k * n := Int.mul_le_mul_of_nonneg_right h2 h3
  have h6 : -k * n ≤ a * n := Int.mul_le_mul_of_nonneg_right h1 h3
  have h7 : k * n ≤ k * l := Int.mul_le_mul_of_nonneg_left h4 hk
  rw [Int.neg_mul] at h6
  omega

end Go.Proofs.Ytlkjpemhamemgaa
