/-
  Contracts of the program's numbersBelow, eachOnce (with the library's slices.Equal), picksFault.
-/
import Derived.Test.YthmhpgbkapjjkaaPlA
import Derived.Test.YthmhpgbkapjjkaaRow1
namespace Go.Proofs.Ythmhpgbkapjjkaa
open Go.ChangeShapes Go.WideShapes Go.ChangeAt Go.RowKit Go.Joins Go.Deep
set_option linter.unusedVariables false

theorem picksFault_any (a p g : Int) (ad : Option Addr) (cap : Nat) (rs : List RPt) (hl : rs.length ≤ 100000000) (w : World) (hr : ReadsPt w.heap.size w ad rs) :
    Calls Try.prog 36 #[.agg #[.int .i64 a, .int .i64 p, .int .i64 g], .slice ad rs.length cap] w fun e w' => e = .returned (.int .i64 (pkC a p g rs)) ∧ Below w.heap.size w w' := by
  have HW : Hid (∀ W, Below w.heap.size w W → Calls Try.prog 44 #[.agg #[.int .i64 a, .int .i64 p, .int .i64 g], .slice ad rs.length cap] W fun e w' => e = .returned (.bool (hlB a p g && spsB a p rs)) ∧ Below W.heap.size W w') := fun W hb => impWith_any a p g ad cap rs hl W ((hr.below hb).mono hb.size)
  clear hr
  by_cases h9 : 9 < rs.length
  · have e0 : pkC a p g rs = 9 := by unfold pkC; rw [if_pos h9]
    rw [e0]
    have h9' : (9 : Int) < (rs.length : Int) := by omega
    clear e0 h9
    go_enter Try.func36, Try.ntmps36
    go_wp2
    go_ret
    exact ⟨rfl, below_alloc _ _⟩
  · have e0 : pkC a p g rs = if (hlB a p g && spsB a p rs) = true then 0 else 1 := by unfold pkC; rw [if_neg h9]
    rw [e0]
    have h9' : ¬ (9 : Int) < (rs.length : Int) := by omega
    clear e0 h9
    generalize (hlB a p g && spsB a p rs) = b at *
    cases b
    all_goals
      go_enter Try.func36, Try.ntmps36
      go_wp2_with fail
      (first | go_at_call 44 | skip)
      refine (HW.out _ (below_alloc _ _)).mono ?_
      rintro e w2 ⟨rfl, hb2⟩
      go_wp2
      go_ret
      exact ⟨rfl, chain (below_alloc _ _) hb2⟩
end Go.Proofs.Ythmhpgbkapjjkaa
