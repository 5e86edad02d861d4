/-
  How far it is between two spots of a hall: contracts of Between, the program's and the specification's, for all arguments.
-/
import Derived.Test.YtoogphkojofkfaaQsA
import Derived.Test.YtoogphkojofkfaaPtA
import Derived.Test.YtoogphkojofkfaaCellNo
namespace Go.Proofs.Ytoogphkojofkfaa
open Go.ChangeShapes Go.WideShapes Go.ChangeAt Go.RowKit Go.Joins Go.Deep
set_option linter.unusedVariables false

/-- A right hall: aisles, places, gap. -/
def hlB (a p g : Int) : Bool := inB a 1 20 && (inB p 1 100 && inB g 1 100)
/-- A spot of it. -/
def spB (a p : Int) (r : RPt) : Bool := inB r.ai 0 (a - 1) && inB r.pl 0 (p + 1)
def apN (a b : Int) : Int := max (a - b) (b - a)
/-- How far it is. -/
def farN (p g : Int) (r s : RPt) : Int := if r.ai = s.ai then apN r.pl s.pl else g * apN r.ai s.ai + min (r.pl + s.pl) (2 * (p + 1) - (r.pl + s.pl))
theorem hl_facts {a p g : Int} (h : hlB a p g = true) : (1 ≤ a ∧ a ≤ 20) ∧ (1 ≤ p ∧ p ≤ 100) ∧ 1 ≤ g ∧ g ≤ 100 := by
  unfold hlB inB at h
  simp only [Bool.and_eq_true, decide_eq_true_eq] at h
  exact h
theorem sp_facts {a p : Int} {r : RPt} (h : spB a p r = true) : (0 ≤ r.ai ∧ r.ai ≤ a - 1) ∧ 0 ≤ r.pl ∧ r.pl ≤ p + 1 := by
  unfold spB inB at h
  simp only [Bool.and_eq_true, decide_eq_true_eq] at h
  exact h
theorem mul_bd {g x : Int} (h : 1 ≤ g ∧ g ≤ 100) (hx : 0 ≤ x ∧ x ≤ 20) : 0 ≤ g * x ∧ g * x ≤ 2000 := by
  have h1 : 0 ≤ g * x := Int.mul_nonneg (by omega) hx.1
  have h2 : g * x ≤ 100 * 20 := Int.mul_le_mul h.2 hx.2 hx.1 (by omega)
  omega
theorem apN_bd (a b : Int) : 0 ≤ apN a b ∧ (∀ l h, l ≤ a → a ≤ h → l ≤ b → b ≤ h → apN a b ≤ h - l) := by
  unfold apN
  refine ⟨by omega, fun l h _ _ _ _ => by omega⟩
theorem farN_bd {a p g : Int} {r s : RPt} (hh : hlB a p g = true) (hr : spB a p r = true) (hs : spB a p s = true) : 0 ≤ farN p g r s ∧ farN p g r s ≤ 2300 := by
  obtain ⟨h1, h2, h3⟩ := hl_facts hh
  obtain ⟨r1, r2⟩ := sp_facts hr
  obtain ⟨s1, s2⟩ := sp_facts hs
  have e1 := apN_bd r.pl s.pl
  have e2 := apN_bd r.ai s.ai
  have e3 := e2.2 0 19 (by omega) (by omega) (by omega) (by omega)
  have e4 := e1.2 0 101 (by omega) (by omega) (by omega) (by omega)
  have e5 := mul_bd h3 ⟨e2.1, (by omega : apN r.ai s.ai ≤ 20)⟩
  unfold farN
  split <;> omega
theorem impApart_any (a b : Int) (ha : -1000000 ≤ a ∧ a ≤ 1000000) (hb : -1000000 ≤ b ∧ b ≤ 1000000) (w : World) :
    Calls Try.prog 62 #[.int .i64 a, .int .i64 b] w fun e w' => e = .returned (.int .i64 (apN a b)) ∧ Below w.heap.size w w' := by
  have h1 : IntKind.i64.wrap (a - b) = a - b := wrap_id _ (by omega) (by omega)
  have h2 : IntKind.i64.wrap (b - a) = b - a := wrap_id _ (by omega) (by omega)
  have h3 : (if a - b < b - a then b - a else a - b) = apN a b := by unfold apN; split <;> omega
  generalize apN a b = m at *
  go_enter Try.func62, Try.ntmps62
  go_wp2
  go_ret
  exact ⟨by first | rfl | simp, Below.refl _ _⟩
end Go.Proofs.Ytoogphkojofkfaa
