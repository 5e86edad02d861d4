/-
  PointsRun of the program at too many acts.
-/
import Derived.Test.YtodncihjenlnjaaPpM
namespace Go.Proofs.Ytodncihjenlnjaa
open Go.ChangeShapes Go.WideShapes Go.ChangeAt Go.RowKit Go.Deep
set_option linter.unusedVariables false

theorem pointsRun_no (a : Option Addr) (n cap : Nat) (hn : 200 < n) (w : World) :
    Calls Try.prog 7 #[.slice a n cap] w fun e w' => e = .returned (.tuple #[.slice none 0 0, .agg #[.int .i64 0, .int .i64 0, .int .i64 0, .slice none 0 0], .int .i64 (if 4096 < n then 2 else 9)]) ∧ Below w.heap.size w w' := by
  have HB : Hid (∀ V : Array Value, Below w.heap.size w (w.alloc (Obj.cells V 27))) := fun V => below_alloc _ _
  by_cases h : 4096 < n
  · have HC : Hid ((if 4096 < n then (2 : Int) else 9) = 2) := by show _ = _; rw [if_pos h]
    have hi : (4096 : Int) < (n : Int) := by omega
    generalize (if 4096 < n then (2 : Int) else 9) = c at *
    clear h
    go_enter Try.func7, Try.ntmps7
    go_wp2
    refine bodyPost_ret (v := .tuple #[.slice none 0 0, .agg #[.int .i64 0, .int .i64 0, .int .i64 0, .slice none 0 0], .int .i64 2]) (by simp [results, Try.results7, go_sem]) rfl ⟨by rw [HC.out], HB.out _⟩
  · have HC : Hid ((if 4096 < n then (2 : Int) else 9) = 9) := by show _ = _; rw [if_neg h]
    have hi : ¬ (4096 : Int) < (n : Int) := by omega
    have hi2 : (200 : Int) < (n : Int) := by omega
    generalize (if 4096 < n then (2 : Int) else 9) = c at *
    clear h
    go_enter Try.func7, Try.ntmps7
    go_wp2
    refine bodyPost_ret (v := .tuple #[.slice none 0 0, .agg #[.int .i64 0, .int .i64 0, .int .i64 0, .slice none 0 0], .int .i64 9]) (by simp [results, Try.results7, go_sem]) rfl ⟨by rw [HC.out], HB.out _⟩
end Go.Proofs.Ytodncihjenlnjaa
