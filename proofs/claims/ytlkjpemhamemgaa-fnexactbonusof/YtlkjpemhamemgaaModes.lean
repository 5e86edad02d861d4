/-
  Contracts of the program's table of modes (a function in a struct's field for each mode) and of the rounding that calls through it, each for every argument within the bounds that its callers keep.
-/
import Derived.Test.YtlkjpemhamemgaaRound
namespace Go.Proofs.Ytlkjpemhamemgaa
open Go.ChangeShapes Go.WideShapes Go.ChangeAt Go.RowKit
set_option linter.unusedVariables false


theorem mode1_any (q r d : Int) (w : World) :
    Calls Try.prog 131 #[.agg #[.int .i64 q, .int .i64 r, .int .i64 d]] w fun e w' => e = .returned (.bool (upB q r d 1)) ∧ Below w.heap.size w w' := by
  have e : upB q r d 1 = false := by simp [upB]
  rw [e]
  go_enter Try.func131, Try.ntmps131
  go_wp2
  go_ret
  exact ⟨rfl, below_alloc _ _⟩

theorem mode2_any (q r d : Int) (w : World) :
    Calls Try.prog 132 #[.agg #[.int .i64 q, .int .i64 r, .int .i64 d]] w fun e w' => e = .returned (.bool (upB q r d 2)) ∧ Below w.heap.size w w' := by
  have e : upB q r d 2 = decide (0 < r) := by simp [upB]
  rw [e]
  go_enter Try.func132, Try.ntmps132
  go_wp2
  go_ret
  exact ⟨rfl, below_alloc _ _⟩


theorem odd_tmod (q : Int) : (q.tmod 2 != 0) = decide (q % 2 = 1) := by
  obtain ⟨f1, f2⟩ := tdiv_facts q 2 (by omega)
  obtain ⟨t1, t2⟩ := tmod_bound q 2 (by omega)
  by_cases h : 0 ≤ q.tmod 2
  · rw [(f1 h).2, Bool.eq_iff_iff]; simp; omega
  · have := (f2 (by omega)).2
    have e : q.tmod 2 = -1 := by omega
    rw [e, Bool.eq_iff_iff]; simp; omega

theorem up3 (q r d : Int) : upB q r d 3 = (decide (d < 2 * r) || (decide (2 * r = d) && (q.tmod 2 != 0))) := by
  rw [odd_tmod, Bool.eq_iff_iff]; simp [upB]
theorem up4 (q r d : Int) : upB q r d 4 = (decide (d < 2 * r) || (decide (2 * r = d) && decide (0 ≤ q))) := by
  rw [Bool.eq_iff_iff]; simp [upB]


theorem mode3_any (q r d : Int) (w : World) (hr : 0 ≤ r) (hr' : r < d) (hd : d ≤ 100000000) :
    Calls Try.prog 133 #[.agg #[.int .i64 q, .int .i64 r, .int .i64 d]] w fun e w' => e = .returned (.bool (upB q r d 3)) ∧ Below w.heap.size w w' := by
  rw [up3]
  go_enter Try.func133, Try.ntmps133
  go_wp2_with (go_at_call 134; refine (nearer_any _ _ _ _ _ hr hr' hd).mono ?_; rintro e w1 ⟨rfl, hb1⟩)
  go_ret
  exact ⟨rfl, chain (below_alloc _ _) hb1⟩

theorem mode4_any (q r d : Int) (w : World) (hr : 0 ≤ r) (hr' : r < d) (hd : d ≤ 100000000) :
    Calls Try.prog 135 #[.agg #[.int .i64 q, .int .i64 r, .int .i64 d]] w fun e w' => e = .returned (.bool (upB q r d 4)) ∧ Below w.heap.size w w' := by
  rw [up4]
  go_enter Try.func135, Try.ntmps135
  go_wp2_with (go_at_call 134; refine (nearer_any _ _ _ _ _ hr hr' hd).mono ?_; rintro e w1 ⟨rfl, hb1⟩)
  go_ret
  exact ⟨rfl, chain (below_alloc _ _) hb1⟩



theorem rounded_fn1 (u : Bool) (q r d : Int) (w : World) (hq : -1000000000000000000 ≤ q) (hq' : q ≤ 1000000000000000000)
    (hk : ∀ w, Calls Try.prog 131 #[.agg #[.int .i64 q, .int .i64 r, .int .i64 d]] w fun e w' => e = .returned (.bool u) ∧ Below w.heap.size w w') :
    Calls Try.prog 114 #[.agg #[.int .i64 q, .int .i64 r, .int .i64 d], .agg #[.func (.func 131) #[] #[]]] w fun e w' => e = .returned (.int .i64 (if u = true then q + 1 else q)) ∧ Below w.heap.size w w' := by
  cases u
  all_goals
    go_enter Try.func114, Try.ntmps114
    go_wp2_with (go_at_call 131; refine (hk _).mono ?_; rintro e w1 ⟨rfl, hb1⟩; obtain ⟨hc1, hf1, hz1⟩ := bfacts hb1)
    go_ret
    exact ⟨rfl, chain (chain (below_alloc _ _) (below_alloc _ _)) hb1⟩

theorem rounded_fn2 (u : Bool) (q r d : Int) (w : World) (hq : -1000000000000000000 ≤ q) (hq' : q ≤ 1000000000000000000)
    (hk : ∀ w, Calls Try.prog 132 #[.agg #[.int .i64 q, .int .i64 r, .int .i64 d]] w fun e w' => e = .returned (.bool u) ∧ Below w.heap.size w w') :
    Calls Try.prog 114 #[.agg #[.int .i64 q, .int .i64 r, .int .i64 d], .agg #[.func (.func 132) #[] #[]]] w fun e w' => e = .returned (.int .i64 (if u = true then q + 1 else q)) ∧ Below w.heap.size w w' := by
  cases u
  all_goals
    go_enter Try.func114, Try.ntmps114
    go_wp2_with (go_at_call 132; refine (hk _).mono ?_; rintro e w1 ⟨rfl, hb1⟩; obtain ⟨hc1, hf1, hz1⟩ := bfacts hb1)
    go_ret
    exact ⟨rfl, chain (chain (below_alloc _ _) (below_alloc _ _)) hb1⟩

theorem rounded_fn3 (u : Bool) (q r d : Int) (w : World) (hq : -1000000000000000000 ≤ q) (hq' : q ≤ 1000000000000000000)
    (hk : ∀ w, Calls Try.prog 133 #[.agg #[.int .i64 q, .int .i64 r, .int .i64 d]] w fun e w' => e = .returned (.bool u) ∧ Below w.heap.size w w') :
    Calls Try.prog 114 #[.agg #[.int .i64 q, .int .i64 r, .int .i64 d], .agg #[.func (.func 133) #[] #[]]] w fun e w' => e = .returned (.int .i64 (if u = true then q + 1 else q)) ∧ Below w.heap.size w w' := by
  cases u
  all_goals
    go_enter Try.func114, Try.ntmps114
    go_wp2_with (go_at_call 133; refine (hk _).mono ?_; rintro e w1 ⟨rfl, hb1⟩; obtain ⟨hc1, hf1, hz1⟩ := bfacts hb1)
    go_ret
    exact ⟨rfl, chain (chain (below_alloc _ _) (below_alloc _ _)) hb1⟩

theorem rounded_fn4 (u : Bool) (q r d : Int) (w : World) (hq : -1000000000000000000 ≤ q) (hq' : q ≤ 1000000000000000000)
    (hk : ∀ w, Calls Try.prog 135 #[.agg #[.int .i64 q, .int .i64 r, .int .i64 d]] w fun e w' => e = .returned (.bool u) ∧ Below w.heap.size w w') :
    Calls Try.prog 114 #[.agg #[.int .i64 q, .int .i64 r, .int .i64 d], .agg #[.func (.func 135) #[] #[]]] w fun e w' => e = .returned (.int .i64 (if u = true then q + 1 else q)) ∧ Below w.heap.size w w' := by
  cases u
  all_goals
    go_enter Try.func114, Try.ntmps114
    go_wp2_with (go_at_call 135; refine (hk _).mono ?_; rintro e w1 ⟨rfl, hb1⟩; obtain ⟨hc1, hf1, hz1⟩ := bfacts hb1)
    go_ret
    exact ⟨rfl, chain (chain (below_alloc _ _) (below_alloc _ _)) hb1⟩


theorem roundings_any (w : World) :
    Calls Try.prog 115 #[] w fun e w' => e = .returned (.agg #[.nilFunc, .func (.func 131) #[] #[], .func (.func 132) #[] #[], .func (.func 133) #[] #[], .func (.func 135) #[] #[]]) ∧ Below w.heap.size w w' := by
  go_enter Try.func115, Try.ntmps115
  go_wp2
  refine bodyPost_ret (v := .agg #[.nilFunc, .func (.func 131) #[] #[], .func (.func 132) #[] #[], .func (.func 133) #[] #[], .func (.func 135) #[] #[]]) (by simp [results, Try.results115, go_sem]) rfl ⟨rfl, below_alloc _ _⟩

end Go.Proofs.Ytlkjpemhamemgaa
