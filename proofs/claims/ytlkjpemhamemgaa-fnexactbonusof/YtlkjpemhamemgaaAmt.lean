/-
  Contracts of the functions of chapter 2 that ask whether a number is an amount (the specification's and the program's), each for every number.
-/
import Derived.Test.YtlkjpemhamemgaaRate
namespace Go.Proofs.Ytlkjpemhamemgaa
open Go.ChangeShapes Go.WideShapes Go.ChangeAt Go.RowKit
set_option linter.unusedVariables false

def amtB (a : Int) : Bool := inB a (-1000000000) 1000000000
def told1 (x : Int) : Int := if amtB x = true then x else 0
def told2 (x : Int) : Int := if amtB x = true then 0 else 11
def modeB (m : Int) : Bool := inB m 1 4

theorem amtB_iff (a : Int) : amtB a = true ↔ -1000000000 ≤ a ∧ a ≤ 1000000000 := by simp [amtB, inB]
theorem modeB_iff (a : Int) : modeB a = true ↔ a = 1 ∨ a = 2 ∨ a = 3 ∨ a = 4 := by simp [modeB, inB]; omega
theorem rateB_iff (n d : Int) : rateB n d = true ↔ (0 ≤ n ∧ n ≤ 10000) ∧ 1 ≤ d ∧ d ≤ 10000 := by simp [rateB]


theorem implMoney_any (n : Int) (w : World) :
    Calls Try.prog 109 #[.int .i64 n] w fun e w' => e = .returned (.bool (amtB n)) ∧ w' = w := by
  rcases in_ways n (-1000000000) 1000000000 with h | ⟨h1, h2⟩ | ⟨h1, h2⟩
  all_goals
    go_enter Try.func109, Try.ntmps109
    go_wp2
    go_ret
    exact ⟨ret_bool (by first | exact (decide_eq_false (by omega)).symm | exact (decide_eq_true (by omega)).symm | exact decide_eq_decide.mpr (by omega)), rfl⟩

end Go.Proofs.Ytlkjpemhamemgaa
