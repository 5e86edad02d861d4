/-
  The program's valuedArticle: five digits.
-/
import Derived.Test.YtnjciehnlemmlaaDigits
namespace Go.Proofs.Ytnjciehnlemmlaa
open Go.ChangeShapes Go.WideShapes Go.ChangeAt Go.RowKit
set_option linter.unusedVariables false

def five (s : ByteArray) : Bool := decide ((s.size : Int) = 5) && allD s.data.toList
theorem valuedArt_any (s : ByteArray) (w : World) :
    Calls Try.prog 25 #[.string s] w fun e w' => e = .returned (.bool (five s)) ∧ Below w.heap.size w w' := by
  have hA := fun w => allDigits_any s w
  by_cases h : (s.size : Int) = 5
  · have e : five s = allD s.data.toList := by unfold five; rw [decide_eq_true h, Bool.true_and]
    rw [e]
    go_enter Try.func25, Try.ntmps25
    go_wp2_with (go_at_call 27; refine (hA _).mono ?_; rintro e w1 ⟨rfl, hb1⟩)
    go_ret
    exact ⟨rfl, hb1⟩
  · have e : five s = false := by unfold five; rw [decide_eq_false h, Bool.false_and]
    have h' : ((s.size : Int) == 5) = false := by simpa using h
    rw [e]
    go_enter Try.func25, Try.ntmps25
    go_wp2
    go_ret
    exact ⟨rfl, Below.refl _ _⟩
end Go.Proofs.Ytnjciehnlemmlaa
