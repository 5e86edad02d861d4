/-
  Contracts of the functions of chapter 2 that ask whether a number is an amount or a mode, and tell it (the specification's and the program's), each for every argument.
-/
import Derived.Test.YtbppfncpkcojgaiModes
namespace Go.Proofs.Ytbppfncpkcojgai
open Go.ChangeShapes Go.WideShapes Go.ChangeAt Go.RowKit
set_option linter.unusedVariables false

def amtB (a : Int) : Bool := inB a (-1000000000) 1000000000
def told1 (x : Int) : Int := if amtB x = true then x else 0
def told2 (x : Int) : Int := if amtB x = true then 0 else 11
def modeB (m : Int) : Bool := inB m 1 4

theorem amtB_iff (a : Int) : amtB a = true ↔ -1000000000 ≤ a ∧ a ≤ 1000000000 := by simp [amtB, inB]
theorem modeB_iff (a : Int) : modeB a = true ↔ a = 1 ∨ a = 2 ∨ a = 3 ∨ a = 4 := by simp [modeB, inB]; omega
theorem rateB_iff (n d : Int) : rateB n d = true ↔ (0 ≤ n ∧ n ≤ 10000) ∧ 1 ≤ d ∧ d ≤ 10000 := by simp [rateB]


theorem specMoney_any (n : Int) (w : World) :
    Calls Try.prog 13 #[.int .i64 n] w fun e w' => e = .returned (.bool (amtB n)) ∧ w' = w := by
  go_enter Try.func13, Try.ntmps13
  go_wp2_with (go_at_call 14; refine (in_any _ _ _ _).mono ?_; rintro e w' ⟨rfl, rfl⟩)
  go_ret
  exact ⟨rfl, rfl⟩


theorem implMoney_any (n : Int) (w : World) :
    Calls Try.prog 16 #[.int .i64 n] w fun e w' => e = .returned (.bool (amtB n)) ∧ w' = w := by
  rcases in_ways n (-1000000000) 1000000000 with h | ⟨h1, h2⟩ | ⟨h1, h2⟩
  all_goals
    go_enter Try.func16, Try.ntmps16
    go_wp2
    go_ret
    exact ⟨ret_bool (by first | exact (decide_eq_false (by omega)).symm | exact (decide_eq_true (by omega)).symm | exact decide_eq_decide.mpr (by omega)), rfl⟩


theorem specTold_any (n : Int) (w : World) :
    Calls Try.prog 15 #[.int .i64 n] w fun e w' => e = .returned (.tuple #[.int .i64 (told1 n), .int .i64 (told2 n)]) ∧ w' = w := by
  unfold told1 told2
  cases h : amtB n
  all_goals
    go_enter Try.func15, Try.ntmps15
    go_wp2_with (go_at_call 13; refine (specMoney_any _ _).mono ?_; rintro e w' ⟨rfl, rfl⟩)
    go_ret2
    exact ⟨rfl, rfl⟩


theorem implTold_any (n : Int) (w : World) :
    Calls Try.prog 19 #[.int .i64 n] w fun e w' => e = .returned (.tuple #[.int .i64 (told1 n), .int .i64 (told2 n)]) ∧ w' = w := by
  unfold told1 told2
  cases h : amtB n
  all_goals
    go_enter Try.func19, Try.ntmps19
    go_wp2_with (go_at_call 16; refine (implMoney_any _ _).mono ?_; rintro e w' ⟨rfl, rfl⟩)
    go_ret2
    exact ⟨rfl, rfl⟩


theorem specMode_any (n : Int) (w : World) :
    Calls Try.prog 23 #[.int .i64 n] w fun e w' => e = .returned (.bool (modeB n)) ∧ w' = w := by
  go_enter Try.func23, Try.ntmps23
  go_wp2_with (go_at_call 14; refine (in_any _ _ _ _).mono ?_; rintro e w' ⟨rfl, rfl⟩)
  go_ret
  exact ⟨rfl, rfl⟩

theorem implMode_any (n : Int) (w : World) :
    Calls Try.prog 26 #[.int .i64 n] w fun e w' => e = .returned (.bool (modeB n)) ∧ w' = w := by
  rcases in_ways n 1 4 with h | ⟨h1, h2⟩ | ⟨h1, h2⟩
  all_goals
    go_enter Try.func26, Try.ntmps26
    go_wp2
    go_ret
    exact ⟨ret_bool (by first | exact (decide_eq_false (by omega)).symm | exact (decide_eq_true (by omega)).symm | exact decide_eq_decide.mpr (by omega)), rfl⟩

theorem mul_bound (a n k l : Int) (h1 : -k ≤ a) (h2 : a ≤ k) (h3 : 0 ≤ n) (h4 : n ≤ l) (hk : 0 ≤ k) : -(k * l) ≤ a * n ∧ a * n ≤ k * l := by
  have h5 : a * n ≤ k * n := Int.mul_le_mul_of_nonneg_right h2 h3
  have h6 : -k * n ≤ a * n := Int.mul_le_mul_of_nonneg_right h1 h3
  have h7 : k * n ≤ k * l := Int.mul_le_mul_of_nonneg_left h4 hk
  rw [Int.neg_mul] at h6
  omega

end Go.Proofs.Ytbppfncpkcojgai
