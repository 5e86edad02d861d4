/-
  Contracts of math.IsNaN, within, degreeOK, traceOK, traceFault; of the specification's l22There, l22Within, l22Trace.
-/
import Derived.Test.YtillkllkekhmfaaFlA
namespace Go.Proofs.Ytillkllkekhmfaa
open Go.ChangeShapes Go.WideShapes Go.ChangeAt Go.RowKit Go.Joins Go.Deep
set_option linter.unusedVariables false

theorem isNaN_any (x : Nat) (w : World) : Calls Try.prog 55 #[.float .f64 x] w fun e w' => e = .returned (.bool (msF x)) ∧ Below w.heap.size w w' := by
  have h1 := o_ms x
  generalize msF x = b at *
  go_enter Try.func55, Try.ntmps55
  go_wp2
  go_ret
  exact ⟨rfl, Below.refl _ _⟩
theorem there_any (x : Nat) (w : World) : Calls Try.prog 36 #[.float .f64 x] w fun e w' => e = .returned (.bool (!msF x)) ∧ Below w.heap.size w w' := by
  have h1 := o_th x
  generalize msF x = b at *
  go_enter Try.func36, Try.ntmps36
  go_wp2
  go_ret
  exact ⟨rfl, Below.refl _ _⟩
theorem within_any (x lo hi : Nat) (w : World) : Calls Try.prog 56 #[.float .f64 x, .float .f64 lo, .float .f64 hi] w fun e w' => e = .returned (.bool (inF x lo hi)) ∧ Below w.heap.size w w' := by
  have h1 := o_le lo x
  have h2 := o_le x hi
  unfold inF
  generalize leF lo x = b at *
  generalize leF x hi = c at *
  go_enter Try.func56, Try.ntmps56
  cases b
  all_goals
    go_wp2
    go_ret
    exact ⟨rfl, Below.refl _ _⟩
theorem specIn_any (x lo hi : Nat) (w : World) : Calls Try.prog 41 #[.float .f64 x, .float .f64 lo, .float .f64 hi] w fun e w' => e = .returned (.bool (inF x lo hi)) ∧ Below w.heap.size w w' := by
  have h1 := o_ge x lo
  have h2 := o_le x hi
  unfold inF
  generalize leF lo x = b at *
  generalize leF x hi = c at *
  go_enter Try.func41, Try.ntmps41
  cases b
  all_goals
    go_wp2
    go_ret
    exact ⟨rfl, Below.refl _ _⟩
theorem degree_any (x : Nat) (w : World) : Calls Try.prog 37 #[.float .f64 x] w fun e w' => e = .returned (.bool (dgF x)) ∧ Below w.heap.size w w' := by
  have H : Hid (∀ W, Calls Try.prog 56 #[.float .f64 x, .float .f64 13875379345695965184, .float .f64 4652007308841189376] W fun e w' => e = .returned (.bool (dgF x)) ∧ Below W.heap.size W w') := fun W => within_any x loF hiF W
  generalize dgF x = b at *
  go_enter Try.func37, Try.ntmps37
  go_wp2_with (go_at_call 56; refine (H.out _).mono ?_; rintro e w2 ⟨rfl, hb2⟩)
  go_ret
  exact ⟨rfl, hb2⟩
end Go.Proofs.Ytillkllkekhmfaa
