/-
  Contracts of math.IsNaN, within, degreeOK, traceOK, traceFault; of the specification's l22There, l22Within, l22Trace.
-/
import Derived.Test.YtillkllkekhmfabFlA
namespace Go.Proofs.Ytillkllkekhmfab
open Go.ChangeShapes Go.WideShapes Go.ChangeAt Go.RowKit Go.Joins Go.Deep
set_option linter.unusedVariables false

theorem within_any (x lo hi : Nat) (w : World) : Calls Try.prog 27 #[.float .f64 x, .float .f64 lo, .float .f64 hi] w fun e w' => e = .returned (.bool (inF x lo hi)) ∧ Below w.heap.size w w' := by
  have h1 := o_le lo x
  have h2 := o_le x hi
  unfold inF
  generalize leF lo x = b at *
  generalize leF x hi = c at *
  go_enter Try.func27, Try.ntmps27
  cases b
  all_goals
    go_wp2
    go_ret
    exact ⟨rfl, Below.refl _ _⟩
theorem specIn_any (x lo hi : Nat) (w : World) : Calls Try.prog 22 #[.float .f64 x, .float .f64 lo, .float .f64 hi] w fun e w' => e = .returned (.bool (inF x lo hi)) ∧ Below w.heap.size w w' := by
  have h1 := o_ge x lo
  have h2 := o_le x hi
  unfold inF
  generalize leF lo x = b at *
  generalize leF x hi = c at *
  go_enter Try.func22, Try.ntmps22
  cases b
  all_goals
    go_wp2
    go_ret
    exact ⟨rfl, Below.refl _ _⟩
end Go.Proofs.Ytillkllkekhmfab
