/-
  The laws' own toHall.
-/
import Derived.Test.YtpcdhjdggimgmaaPkE
namespace Go.Proofs.Ytpcdhjdggimgmaa
open Go.ChangeShapes Go.WideShapes Go.ChangeAt Go.RowKit Go.Joins Go.Deep
set_option linter.unusedVariables false
theorem toHall_any (x1 x2 x3 : Int) (w : World) :
    Calls Try.prog 15 #[.agg #[.int .i64 x1, .int .i64 x2, .int .i64 x3]] w fun e w' => e = .returned (.agg #[.int .i64 x1, .int .i64 x2, .int .i64 x3]) ∧ Below w.heap.size w w' := by
  have l1 : ∀ n : Nat, n < n + 1 + 1 := fun n => by omega
  have l2 : ∀ n : Nat, n < n + 2 := fun n => by omega
  have l3 : ∀ n : Nat, n < n + 3 := fun n => by omega
  have l4 : ∀ n : Nat, n + 1 < n + 3 := fun n => by omega
  have l5 : ∀ n : Nat, n + 2 < n + 3 := fun n => by omega
  go_enter Try.func15, Try.ntmps15
  go_wp2
  refine bodyPost_ret (v := .agg #[.int .i64 x1, .int .i64 x2, .int .i64 x3]) (by simp [results, Try.results15, go_sem]) rfl ⟨rfl, ?_⟩
  repeat (first | exact Below.refl _ _ | refine chain ?_ (below_alloc _ _) | refine Below.setCell ?_ (by dsimp only; omega) _)
end Go.Proofs.Ytpcdhjdggimgmaa
