/-
  Contracts of the program's table of modes (a function in a struct's field for each mode) and of the rounding that calls through it, each for every argument within the bounds that its callers keep.
-/
import Derived.Test.YteajjaenmbigeaaRound
namespace Go.Proofs.Yteajjaenmbigeaa
open Go.ChangeShapes Go.WideShapes Go.ChangeAt Go.RowKit
set_option linter.unusedVariables false


theorem odd_tmod (q : Int) : (q.tmod 2 != 0) = decide (q % 2 = 1) := by
  obtain ⟨f1, f2⟩ := tdiv_facts q 2 (by omega)
  obtain ⟨t1, t2⟩ := tmod_bound q 2 (by omega)
  by_cases h : 0 ≤ q.tmod 2
  · rw [(f1 h).2, Bool.eq_iff_iff]; simp; omega
  · have := (f2 (by omega)).2
    have e : q.tmod 2 = -1 := by omega
    rw [e, Bool.eq_iff_iff]; simp; omega

theorem up3 (q r d : Int) : upB q r d 3 = (decide (d < 2 * r) || (decide (2 * r = d) && (q.tmod 2 != 0))) := by
  rw [odd_tmod, Bool.eq_iff_iff]; simp [upB]
theorem up4 (q r d : Int) : upB q r d 4 = (decide (d < 2 * r) || (decide (2 * r = d) && decide (0 ≤ q))) := by
  rw [Bool.eq_iff_iff]; simp [upB]




end Go.Proofs.Yteajjaenmbigeaa
