/-
  Contracts of the small functions of chapter 2 that ask whether a rate is right (the specification's and the program's), each for every argument.
-/
import Derived.Test.YtfiajiodehhmhaaBase
namespace Go.Proofs.Ytfiajiodehhmhaa
open Go.ChangeShapes Go.WideShapes Go.ChangeAt Go.RowKit
set_option linter.unusedVariables false


theorem in_any (n lo hi : Int) (w : World) :
    Calls Try.prog 64 #[.int .i64 n, .int .i64 lo, .int .i64 hi] w fun e w' => e = .returned (.bool (inB n lo hi)) ∧ w' = w := by
  rcases in_ways n lo hi with h | ⟨h1, h2⟩ | ⟨h1, h2⟩
  all_goals
    go_enter Try.func64, Try.ntmps64
    go_wp2
    go_ret
    exact ⟨ret_bool (by first | exact (decide_eq_false (by omega)).symm | exact (decide_eq_true (by omega)).symm | exact decide_eq_decide.mpr (by omega) | (simp [inB]; omega)), rfl⟩



theorem specRate_any (n d : Int) (w : World) :
    Calls Try.prog 65 #[.agg #[.int .i64 n, .int .i64 d]] w fun e w' => e = .returned (.bool (rateB n d)) ∧ Below w.heap.size w w' := by
  rcases rate_ways n d with h | ⟨h1, h2⟩ | ⟨h1, h2, h3⟩ | ⟨h1, h2, h3, h4⟩ | ⟨h1, h2, h3, h4⟩
  all_goals
    go_enter Try.func65, Try.ntmps65
    go_wp2
    go_ret
    exact ⟨ret_bool (by first | exact (decide_eq_false (by omega)).symm | exact (decide_eq_true (by omega)).symm | exact decide_eq_decide.mpr (by omega) | (simp [rateB]; omega)), (Below.refl _ _).alloc (Nat.le_refl _) _⟩



theorem implRate_any (n d : Int) (w : World) :
    Calls Try.prog 110 #[.agg #[.int .i64 n, .int .i64 d]] w fun e w' => e = .returned (.bool (rateB n d)) ∧ Below w.heap.size w w' := by
  rcases rate_ways n d with h | ⟨h1, h2⟩ | ⟨h1, h2, h3⟩ | ⟨h1, h2, h3, h4⟩ | ⟨h1, h2, h3, h4⟩
  all_goals
    go_enter Try.func110, Try.ntmps110
    go_wp2
    go_ret
    exact ⟨ret_bool (by first | exact (decide_eq_false (by omega)).symm | exact (decide_eq_true (by omega)).symm | exact decide_eq_decide.mpr (by omega) | (simp [rateB]; omega)), (Below.refl _ _).alloc (Nat.le_refl _) _⟩



theorem toRate_any (n d : Int) (w : World) :
    Calls Try.prog 104 #[.agg #[.int .i64 n, .int .i64 d]] w fun e w' => e = .returned (.agg #[.int .i64 n, .int .i64 d]) ∧ Below w.heap.size w w' := by
  go_enter Try.func104, Try.ntmps104
  go_wp2
  refine bodyPost_ret (v := .agg #[.int .i64 n, .int .i64 d]) (by simp [results, Try.results104, go_sem]) rfl ⟨rfl, ?_⟩
  exact (((Below.refl _ _).alloc (Nat.le_refl _) _).alloc (by simp) _).alloc (by simp; omega) _

end Go.Proofs.Ytfiajiodehhmhaa
