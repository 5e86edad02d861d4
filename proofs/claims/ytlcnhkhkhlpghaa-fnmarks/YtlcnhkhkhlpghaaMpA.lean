/-
  What a price less its percent is, as mathematics; contracts of the program's marked, markCosts, percentNumbers, span.has, MarkPrice and of the specification's l15Price, MarkPrice.
-/
import Derived.Test.YtlcnhkhkhlpghaaRate
namespace Go.Proofs.Ytlcnhkhkhlpghaa
open Go.ChangeShapes Go.WideShapes Go.ChangeAt Go.RowKit Go.Joins
set_option linter.unusedVariables false

def mkP (p q : Int) : Int := p - (p * q).tdiv 100
theorem mkP_facts {p q : Int} (h1 : 0 ≤ p) (h2 : p ≤ 1000000) (h3 : 0 ≤ q) (h4 : q ≤ 100) : 0 ≤ mkP p q ∧ mkP p q ≤ p ∧ 0 ≤ p * q ∧ p * q ≤ 100000000 ∧ 0 ≤ (p * q).tdiv 100 ∧ (p * q).tdiv 100 ≤ 1000000 := by
  have h5 : 0 ≤ p * q := Int.mul_nonneg h1 h3
  have h6 : p * q ≤ p * 100 := Int.mul_le_mul_of_nonneg_left h4 h1
  have e : (p * q).tdiv 100 = p * q / 100 := Int.tdiv_eq_ediv_of_nonneg h5
  unfold mkP
  rw [e]
  omega
/-- What MarkPrice answers: the price, the code. -/
def mp1 (p q : Int) : Int := if inB p 0 1000000 = true ∧ inB q 0 100 = true then mkP p q else 0
def mp2 (p q : Int) : Int := if inB p 0 1000000 = true then (if inB q 0 100 = true then 0 else 5) else 1
theorem mp_bad {p : Int} (q : Int) (h : inB p 0 1000000 = false) : mp1 p q = 0 ∧ mp2 p q = 1 := by unfold mp1 mp2; simp [h]
theorem mp_range {p q : Int} (h : inB p 0 1000000 = true) (k : inB q 0 100 = false) : mp1 p q = 0 ∧ mp2 p q = 5 := by unfold mp1 mp2; simp [h, k]
theorem mp_right {p q : Int} (h : inB p 0 1000000 = true) (k : inB q 0 100 = true) : mp1 p q = mkP p q ∧ mp2 p q = 0 := by unfold mp1 mp2; simp [h, k]
theorem inW (n lo hi : Int) : (inB n lo hi = false ∧ (n < lo ∨ hi < n)) ∨ (inB n lo hi = true ∧ lo ≤ n ∧ n ≤ hi) := by
  unfold inB
  by_cases h : lo ≤ n ∧ n ≤ hi
  · exact .inr ⟨decide_eq_true h, h⟩
  · exact .inl ⟨decide_eq_false h, by omega⟩
theorem mark_wraps {p q : Int} (h1 : 0 ≤ p) (h2 : p ≤ 1000000) (h3 : 0 ≤ q) (h4 : q ≤ 100) : IntKind.i64.wrap (p * q) = p * q ∧ IntKind.i64.wrap ((p * q).tdiv 100) = (p * q).tdiv 100 ∧ IntKind.i64.wrap (p - (p * q).tdiv 100) = p - (p * q).tdiv 100 := by
  obtain ⟨f1, f2, f3, f4, f5, f6⟩ := mkP_facts h1 h2 h3 h4
  exact ⟨wrap_id _ (by omega) (by omega), wrap_id _ (by omega) (by omega), wrap_id _ (by omega) (by omega)⟩
theorem marked_any (p q : Int) (h1 : 0 ≤ p) (h2 : p ≤ 1000000) (h3 : 0 ≤ q) (h4 : q ≤ 100) (w : World) :
    Calls Try.prog 41 #[.int .i64 p, .int .i64 q] w fun e w' => e = .returned (.int .i64 (mkP p q)) ∧ w' = w := by
  obtain ⟨e1, e2, e3⟩ := mark_wraps h1 h2 h3 h4
  unfold mkP
  clear h1 h2 h3 h4
  go_enter Try.func41, Try.ntmps41
  go_wp2
  go_ret
  exact ⟨rfl, rfl⟩
theorem l15Price_any (p q : Int) (h1 : 0 ≤ p) (h2 : p ≤ 1000000) (h3 : 0 ≤ q) (h4 : q ≤ 100) (w : World) :
    Calls Try.prog 37 #[.int .i64 p, .int .i64 q] w fun e w' => e = .returned (.int .i64 (mkP p q)) ∧ w' = w := by
  obtain ⟨e1, e2, e3⟩ := mark_wraps h1 h2 h3 h4
  unfold mkP
  clear h1 h2 h3 h4
  go_enter Try.func37, Try.ntmps37
  go_wp2
  go_ret
  exact ⟨rfl, rfl⟩
theorem mkSpan_any (a b n : Int) (w : World) :
    Calls Try.prog 39 #[.agg #[.int .i64 a, .int .i64 b], .int .i64 n] w fun e w' => e = .returned (.bool (inB n a b)) ∧ Below w.heap.size w w' := by
  unfold inB
  rcases (by omega : n < a ∨ (a ≤ n ∧ b < n) ∨ (a ≤ n ∧ n ≤ b)) with h1 | ⟨h1, h2⟩ | ⟨h1, h2⟩
  all_goals
    go_enter Try.func39, Try.ntmps39
    go_wp2
    go_ret
    refine ⟨ret_bool ?_, below_alloc _ _⟩
    rw [Bool.eq_iff_iff]
    simp <;> omega
theorem markCosts_any (w : World) :
    Calls Try.prog 38 #[] w fun e w' => e = .returned (.agg #[.int .i64 0, .int .i64 1000000]) ∧ Below w.heap.size w w' := by
  go_enter Try.func38, Try.ntmps38
  go_wp2
  refine bodyPost_ret (v := .agg #[.int .i64 0, .int .i64 1000000]) (by simp [results, Try.results38, go_sem]) rfl ⟨rfl, ?_⟩
  repeat (first | exact Below.refl _ _ | exact below_alloc _ _ | refine Below.setCell ?_ (by dsimp only; omega) _ | refine chain ?_ (below_alloc _ _))
theorem percentNumbers_any (w : World) :
    Calls Try.prog 40 #[] w fun e w' => e = .returned (.agg #[.int .i64 0, .int .i64 100]) ∧ Below w.heap.size w w' := by
  go_enter Try.func40, Try.ntmps40
  go_wp2
  refine bodyPost_ret (v := .agg #[.int .i64 0, .int .i64 100]) (by simp [results, Try.results40, go_sem]) rfl ⟨rfl, ?_⟩
  repeat (first | exact Below.refl _ _ | exact below_alloc _ _ | refine Below.setCell ?_ (by dsimp only; omega) _ | refine chain ?_ (below_alloc _ _))
theorem specMark_any (p q : Int) (w : World) :
    Calls Try.prog 11 #[.int .i64 p, .int .i64 q] w fun e w' => e = .returned (.tuple #[.int .i64 (mp1 p q), .int .i64 (mp2 p q)]) ∧ w' = w := by
  have hp : ∀ w, Calls Try.prog 36 #[.int .i64 p, .int .i64 0, .int .i64 1000000] w fun e w' => e = .returned (.bool (inB p 0 1000000)) ∧ w' = w := fun w => in_any p 0 1000000 w
  have hq : ∀ w, Calls Try.prog 36 #[.int .i64 q, .int .i64 0, .int .i64 100] w fun e w' => e = .returned (.bool (inB q 0 100)) ∧ w' = w := fun w => in_any q 0 100 w
  rcases inW p 0 1000000 with ⟨h1, _⟩ | ⟨h1, h2, h3⟩
  · rw [(mp_bad q h1).1, (mp_bad q h1).2]
    rw [h1] at hp
    clear h1 hq
    go_enter Try.func11, Try.ntmps11
    go_wp2_with (go_at_call 36; refine (hp _).mono ?_; rintro e w' ⟨rfl, rfl⟩)
    go_ret2
    exact ⟨rfl, rfl⟩
  rw [h1] at hp
  rcases inW q 0 100 with ⟨k1, _⟩ | ⟨k1, k2, k3⟩
  · rw [(mp_range h1 k1).1, (mp_range h1 k1).2]
    rw [k1] at hq
    clear k1 h1
    go_enter Try.func11, Try.ntmps11
    go_wp2_with fail
    (first | go_at_call 36 | skip)
    refine (hp _).mono ?_
    rintro e w' ⟨rfl, rfl⟩
    go_wp2_with fail
    (first | go_at_call 36 | skip)
    refine (hq _).mono ?_
    rintro e w' ⟨rfl, rfl⟩
    go_wp2
    go_ret2
    exact ⟨rfl, rfl⟩
  · rw [(mp_right h1 k1).1, (mp_right h1 k1).2]
    rw [k1] at hq
    have hm := fun w => l15Price_any p q h2 h3 k2 k3 w
    generalize mkP p q = x at *
    clear h1 k1 h2 h3 k2 k3
    go_enter Try.func11, Try.ntmps11
    go_wp2_with fail
    (first | go_at_call 36 | skip)
    refine (hp _).mono ?_
    rintro e w' ⟨rfl, rfl⟩
    go_wp2_with fail
    (first | go_at_call 36 | skip)
    refine (hq _).mono ?_
    rintro e w' ⟨rfl, rfl⟩
    go_wp2_with (go_at_call 37; refine (hm _).mono ?_; rintro e w' ⟨rfl, rfl⟩)
    go_ret2
    exact ⟨rfl, rfl⟩
set_option maxHeartbeats 1000000 in
theorem implMark_any (p q : Int) (w : World) :
    Calls Try.prog 12 #[.int .i64 p, .int .i64 q] w fun e w' => e = .returned (.tuple #[.int .i64 (mp1 p q), .int .i64 (mp2 p q)]) ∧ Below w.heap.size w w' := by
  have hp : ∀ w, Calls Try.prog 39 #[.agg #[.int .i64 0, .int .i64 1000000], .int .i64 p] w fun e w' => e = .returned (.bool (inB p 0 1000000)) ∧ Below w.heap.size w w' := fun w => mkSpan_any 0 1000000 p w
  have hq : ∀ w, Calls Try.prog 39 #[.agg #[.int .i64 0, .int .i64 100], .int .i64 q] w fun e w' => e = .returned (.bool (inB q 0 100)) ∧ Below w.heap.size w w' := fun w => mkSpan_any 0 100 q w
  rcases inW p 0 1000000 with ⟨h1, _⟩ | ⟨h1, h2, h3⟩
  · rw [(mp_bad q h1).1, (mp_bad q h1).2]
    rw [h1] at hp
    clear h1 hq
    go_enter Try.func12, Try.ntmps12
    go_wp2_with fail
    (first | go_at_call 38 | skip)
    refine (markCosts_any _).mono ?_
    rintro e w1 ⟨rfl, hb1⟩
    go_wp2_with fail
    (first | go_at_call 39 | skip)
    refine (hp _).mono ?_
    rintro e w2 ⟨rfl, hb2⟩
    go_wp2
    go_ret2
    exact ⟨rfl, chain hb1 hb2⟩
  rw [h1] at hp
  rcases inW q 0 100 with ⟨k1, _⟩ | ⟨k1, k2, k3⟩
  · rw [(mp_range h1 k1).1, (mp_range h1 k1).2]
    rw [k1] at hq
    clear k1 h1
    go_enter Try.func12, Try.ntmps12
    go_wp2_with fail
    (first | go_at_call 38 | skip)
    refine (markCosts_any _).mono ?_
    rintro e w1 ⟨rfl, hb1⟩
    go_wp2_with fail
    (first | go_at_call 39 | skip)
    refine (hp _).mono ?_
    rintro e w2 ⟨rfl, hb2⟩
    go_wp2_with fail
    (first | go_at_call 40 | skip)
    refine (percentNumbers_any _).mono ?_
    rintro e w3 ⟨rfl, hb3⟩
    go_wp2_with fail
    (first | go_at_call 39 | skip)
    refine (hq _).mono ?_
    rintro e w4 ⟨rfl, hb4⟩
    go_wp2
    go_ret2
    exact ⟨rfl, chain (chain (chain hb1 hb2) hb3) hb4⟩
  · rw [(mp_right h1 k1).1, (mp_right h1 k1).2]
    rw [k1] at hq
    have hm := fun w => marked_any p q h2 h3 k2 k3 w
    generalize mkP p q = x at *
    clear h1 k1 h2 h3 k2 k3
    go_enter Try.func12, Try.ntmps12
    go_wp2_with fail
    (first | go_at_call 38 | skip)
    refine (markCosts_any _).mono ?_
    rintro e w1 ⟨rfl, hb1⟩
    go_wp2_with fail
    (first | go_at_call 39 | skip)
    refine (hp _).mono ?_
    rintro e w2 ⟨rfl, hb2⟩
    go_wp2_with fail
    (first | go_at_call 40 | skip)
    refine (percentNumbers_any _).mono ?_
    rintro e w3 ⟨rfl, hb3⟩
    go_wp2_with fail
    (first | go_at_call 39 | skip)
    refine (hq _).mono ?_
    rintro e w4 ⟨rfl, hb4⟩
    go_wp2_with (go_at_call 41; refine (hm _).mono ?_; rintro e w5 ⟨rfl, rfl⟩)
    go_ret2
    exact ⟨rfl, chain (chain (chain hb1 hb2) hb3) hb4⟩
end Go.Proofs.Ytlcnhkhkhlpghaa
