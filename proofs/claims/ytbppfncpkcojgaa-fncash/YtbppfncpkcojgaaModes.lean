/-
  Contracts of the program's table of modes (a function in a struct's field for each mode) and of the rounding that calls through it, each for every argument within the bounds that its callers keep.
-/
import Derived.Test.YtbppfncpkcojgaaRound
namespace Go.Proofs.Ytbppfncpkcojgaa
open Go.ChangeShapes Go.WideShapes Go.ChangeAt Go.RowKit
set_option linter.unusedVariables false


theorem odd_tmod (q : Int) : (q.tmod 2 != 0) = decide (q % 2 = 1) := by
  obtain ⟨f1, f2⟩ := tdiv_facts q 2 (by omega)
  obtain ⟨t1, t2⟩ := tmod_bound q 2 (by omega)
  by_cases h : 0 ≤ q.tmod 2
  · rw [(f1 h).2, Bool.eq_iff_iff]; simp; omega
  · have := (f2 (by omega)).2
    have e : q.tmod 2 = -1 := by omega
    rw [e, Bool.eq_iff_iff]; simp; omega

theorem up3 (q r d : Int) : upB q r d 3 = (decide (d < 2 * r) || (decide (2 * r = d) && (q.tmod 2 != 0))) := by
  rw [odd_tmod, Bool.eq_iff_iff]; simp [upB]
theorem up4 (q r d : Int) : upB q r d 4 = (decide (d < 2 * r) || (decide (2 * r = d) && decide (0 ≤ q))) := by
  rw [Bool.eq_iff_iff]; simp [upB]



theorem rounded_fn5 (u : Bool) (q r d : Int) (w : World) (hq : -1000000000000000000 ≤ q) (hq' : q ≤ 1000000000000000000)
    (hk : ∀ w, Calls Try.prog 19 #[.agg #[.int .i64 q, .int .i64 r, .int .i64 d]] w fun e w' => e = .returned (.bool u) ∧ Below w.heap.size w w') :
    Calls Try.prog 23 #[.agg #[.int .i64 q, .int .i64 r, .int .i64 d], .agg #[.func (.func 19) #[] #[]]] w fun e w' => e = .returned (.int .i64 (if u = true then q + 1 else q)) ∧ Below w.heap.size w w' := by
  cases u
  all_goals
    go_enter Try.func23, Try.ntmps23
    go_wp2_with (go_at_call 19; refine (hk _).mono ?_; rintro e w1 ⟨rfl, hb1⟩; obtain ⟨hc1, hf1, hz1⟩ := bfacts hb1)
    go_ret
    exact ⟨rfl, chain (chain (below_alloc _ _) (below_alloc _ _)) hb1⟩


end Go.Proofs.Ytbppfncpkcojgaa
