/-
  Contracts of the program's table of modes (a function in a struct's field for each mode) and of the rounding that calls through it, each for every argument within the bounds that its callers keep.
-/
import Derived.Test.YtgkbfkdokknedaaRound
namespace Go.Proofs.Ytgkbfkdokknedaa
open Go.ChangeShapes Go.WideShapes Go.ChangeAt Go.RowKit
set_option linter.unusedVariables false


theorem mode1_any (q r d : Int) (w : World) :
    Calls Try.prog 44 #[.agg #[.int .i64 q, .int .i64 r, .int .i64 d]] w fun e w' => e = .returned (.bool (upB q r d 1)) ∧ Below w.heap.size w w' := by
  have e : upB q r d 1 = false := by simp [upB]
  rw [e]
  go_enter Try.func44, Try.ntmps44
  go_wp2
  go_ret
  exact ⟨rfl, below_alloc _ _⟩

theorem mode2_any (q r d : Int) (w : World) :
    Calls Try.prog 45 #[.agg #[.int .i64 q, .int .i64 r, .int .i64 d]] w fun e w' => e = .returned (.bool (upB q r d 2)) ∧ Below w.heap.size w w' := by
  have e : upB q r d 2 = decide (0 < r) := by simp [upB]
  rw [e]
  go_enter Try.func45, Try.ntmps45
  go_wp2
  go_ret
  exact ⟨rfl, below_alloc _ _⟩


theorem odd_tmod (q : Int) : (q.tmod 2 != 0) = decide (q % 2 = 1) := by
  obtain ⟨f1, f2⟩ := tdiv_facts q 2 (by omega)
  obtain ⟨t1, t2⟩ := tmod_bound q 2 (by omega)
  by_cases h : 0 ≤ q.tmod 2
  · rw [(f1 h).2, Bool.eq_iff_iff]; simp; omega
  · have := (f2 (by omega)).2
    have e : q.tmod 2 = -1 := by omega
    rw [e, Bool.eq_iff_iff]; simp; omega

theorem up3 (q r d : Int) : upB q r d 3 = (decide (d < 2 * r) || (decide (2 * r = d) && (q.tmod 2 != 0))) := by
  rw [odd_tmod, Bool.eq_iff_iff]; simp [upB]
theorem up4 (q r d : Int) : upB q r d 4 = (decide (d < 2 * r) || (decide (2 * r = d) && decide (0 ≤ q))) := by
  rw [Bool.eq_iff_iff]; simp [upB]


theorem mode3_any (q r d : Int) (w : World) (hr : 0 ≤ r) (hr' : r < d) (hd : d ≤ 100000000) :
    Calls Try.prog 46 #[.agg #[.int .i64 q, .int .i64 r, .int .i64 d]] w fun e w' => e = .returned (.bool (upB q r d 3)) ∧ Below w.heap.size w w' := by
  rw [up3]
  go_enter Try.func46, Try.ntmps46
  go_wp2_with (go_at_call 47; refine (nearer_any _ _ _ _ _ hr hr' hd).mono ?_; rintro e w1 ⟨rfl, hb1⟩)
  go_ret
  exact ⟨rfl, chain (below_alloc _ _) hb1⟩

theorem mode4_any (q r d : Int) (w : World) (hr : 0 ≤ r) (hr' : r < d) (hd : d ≤ 100000000) :
    Calls Try.prog 48 #[.agg #[.int .i64 q, .int .i64 r, .int .i64 d]] w fun e w' => e = .returned (.bool (upB q r d 4)) ∧ Below w.heap.size w w' := by
  rw [up4]
  go_enter Try.func48, Try.ntmps48
  go_wp2_with (go_at_call 47; refine (nearer_any _ _ _ _ _ hr hr' hd).mono ?_; rintro e w1 ⟨rfl, hb1⟩)
  go_ret
  exact ⟨rfl, chain (below_alloc _ _) hb1⟩



theorem rounded_fn1 (u : Bool) (q r d : Int) (w : World) (hq : -1000000000000000000 ≤ q) (hq' : q ≤ 1000000000000000000)
    (hk : ∀ w, Calls Try.prog 44 #[.agg #[.int .i64 q, .int .i64 r, .int .i64 d]] w fun e w' => e = .returned (.bool u) ∧ Below w.heap.size w w') :
    Calls Try.prog 37 #[.agg #[.int .i64 q, .int .i64 r, .int .i64 d], .agg #[.func (.func 44) #[] #[]]] w fun e w' => e = .returned (.int .i64 (if u = true then q + 1 else q)) ∧ Below w.heap.size w w' := by
  cases u
  all_goals
    go_enter Try.func37, Try.ntmps37
    go_wp2_with (go_at_call 44; refine (hk _).mono ?_; rintro e w1 ⟨rfl, hb1⟩; obtain ⟨hc1, hf1, hz1⟩ := bfacts hb1)
    go_ret
    exact ⟨rfl, chain (chain (below_alloc _ _) (below_alloc _ _)) hb1⟩

theorem rounded_fn2 (u : Bool) (q r d : Int) (w : World) (hq : -1000000000000000000 ≤ q) (hq' : q ≤ 1000000000000000000)
    (hk : ∀ w, Calls Try.prog 45 #[.agg #[.int .i64 q, .int .i64 r, .int .i64 d]] w fun e w' => e = .returned (.bool u) ∧ Below w.heap.size w w') :
    Calls Try.prog 37 #[.agg #[.int .i64 q, .int .i64 r, .int .i64 d], .agg #[.func (.func 45) #[] #[]]] w fun e w' => e = .returned (.int .i64 (if u = true then q + 1 else q)) ∧ Below w.heap.size w w' := by
  cases u
  all_goals
    go_enter Try.func37, Try.ntmps37
    go_wp2_with (go_at_call 45; refine (hk _).mono ?_; rintro e w1 ⟨rfl, hb1⟩; obtain ⟨hc1, hf1, hz1⟩ := bfacts hb1)
    go_ret
    exact ⟨rfl, chain (chain (below_alloc _ _) (below_alloc _ _)) hb1⟩

theorem rounded_fn3 (u : Bool) (q r d : Int) (w : World) (hq : -1000000000000000000 ≤ q) (hq' : q ≤ 1000000000000000000)
    (hk : ∀ w, Calls Try.prog 46 #[.agg #[.int .i64 q, .int .i64 r, .int .i64 d]] w fun e w' => e = .returned (.bool u) ∧ Below w.heap.size w w') :
    Calls Try.prog 37 #[.agg #[.int .i64 q, .int .i64 r, .int .i64 d], .agg #[.func (.func 46) #[] #[]]] w fun e w' => e = .returned (.int .i64 (if u = true then q + 1 else q)) ∧ Below w.heap.size w w' := by
  cases u
  all_goals
    go_enter Try.func37, Try.ntmps37
    go_wp2_with (go_at_call 46; refine (hk _).mono ?_; rintro e w1 ⟨rfl, hb1⟩; obtain ⟨hc1, hf1, hz1⟩ := bfacts hb1)
    go_ret
    exact ⟨rfl, chain (chain (below_alloc _ _) (below_alloc _ _)) hb1⟩

theorem rounded_fn4 (u : Bool) (q r d : Int) (w : World) (hq : -1000000000000000000 ≤ q) (hq' : q ≤ 1000000000000000000)
    (hk : ∀ w, Calls Try.prog 48 #[.agg #[.int .i64 q, .int .i64 r, .int .i64 d]] w fun e w' => e = .returned (.bool u) ∧ Below w.heap.size w w') :
    Calls Try.prog 37 #[.agg #[.int .i64 q, .int .i64 r, .int .i64 d], .agg #[.func (.func 48) #[] #[]]] w fun e w' => e = .returned (.int .i64 (if u = true then q + 1 else q)) ∧ Below w.heap.size w w' := by
  cases u
  all_goals
    go_enter Try.func37, Try.ntmps37
    go_wp2_with (go_at_call 48; refine (hk _).mono ?_; rintro e w1 ⟨rfl, hb1⟩; obtain ⟨hc1, hf1, hz1⟩ := bfacts hb1)
    go_ret
    exact ⟨rfl, chain (chain (below_alloc _ _) (below_alloc _ _)) hb1⟩


theorem roundings_any (w : World) :
    Calls Try.prog 38 #[] w fun e w' => e = .returned (.agg #[.nilFunc, .func (.func 44) #[] #[], .func (.func 45) #[] #[], .func (.func 46) #[] #[], .func (.func 48) #[] #[]]) ∧ Below w.heap.size w w' := by
  go_enter Try.func38, Try.ntmps38
  go_wp2
  refine bodyPost_ret (v := .agg #[.nilFunc, .func (.func 44) #[] #[], .func (.func 45) #[] #[], .func (.func 46) #[] #[], .func (.func 48) #[] #[]]) (by simp [results, Try.results38, go_sem]) rfl ⟨rfl, below_alloc _ _⟩

end Go.Proofs.Ytgkbfkdokknedaa
