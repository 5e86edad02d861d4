/-
  Contracts of the specification's l06Low, l06High, l06Act, l06Clause, l06Find, ClausesOK.
-/
import Derived.Test.YtfofdeenpcbglaaRuC
import Derived.Test.YtfofdeenpcbglaaRate
namespace Go.Proofs.Ytfofdeenpcbglaa
open Go.ChangeShapes Go.WideShapes Go.ChangeAt Go.RowKit Go.Deep
set_option linter.unusedVariables false

theorem low_any (k : Nat) (h : 1 ≤ k) (h' : k ≤ 5) (w : World) :
    Calls Try.prog 42 #[.int .i64 (k : Int)] w fun e w' => e = .returned (.int .i64 (loF (k : Int))) ∧ Below w.heap.size w w' := by
  rcases (by omega : k = 1 ∨ k = 2 ∨ k = 3 ∨ k = 4 ∨ k = 5) with rfl | rfl | rfl | rfl | rfl
  all_goals
    go_enter Try.func42, Try.ntmps42
    go_wp2
    go_ret
    exact ⟨rfl, below_alloc _ _⟩
theorem high_any (k : Nat) (h : 1 ≤ k) (h' : k ≤ 5) (w : World) :
    Calls Try.prog 43 #[.int .i64 (k : Int)] w fun e w' => e = .returned (.int .i64 (hiF (k : Int))) ∧ Below w.heap.size w w' := by
  rcases (by omega : k = 1 ∨ k = 2 ∨ k = 3 ∨ k = 4 ∨ k = 5) with rfl | rfl | rfl | rfl | rfl
  all_goals
    go_enter Try.func43, Try.ntmps43
    go_wp2
    go_ret
    exact ⟨rfl, below_alloc _ _⟩
theorem act_ways (a n : Int) : (a = 1 ∧ actB a n = inB n 0 100) ∨ (a = 2 ∧ actB a n = inB n 0 1000000000) ∨ ((a == 1) = false ∧ (a == 2) = false ∧ (a == 3) = false ∧ actB a n = false) ∨ (a = 3 ∧ actB a n = (n == 0)) := by
  rcases (by omega : a = 1 ∨ a = 2 ∨ a = 3 ∨ (a ≠ 1 ∧ a ≠ 2 ∧ a ≠ 3)) with rfl | rfl | rfl | ⟨h1, h2, h3⟩
  · exact .inl ⟨rfl, by unfold actB inB; rw [Bool.eq_iff_iff]; simp⟩
  · exact .inr (.inl ⟨rfl, by unfold actB inB; rw [Bool.eq_iff_iff]; simp⟩)
  · exact .inr (.inr (.inr ⟨rfl, by unfold actB; rw [Bool.eq_iff_iff]; simp⟩))
  · exact .inr (.inr (.inl ⟨by simpa using h1, by simpa using h2, by simpa using h3, by unfold actB; exact decide_eq_false (by omega)⟩))
theorem tm_ways (t : RTm) : (inB t.fd 1 5 = false ∧ tmB t = false) ∨ (inB t.fd 1 5 = true ∧ inB t.op 1 3 = false ∧ tmB t = false) ∨ (∃ k : Nat, (1 ≤ k ∧ k ≤ 5) ∧ t.fd = (k : Int) ∧ inB t.fd 1 5 = true ∧ inB t.op 1 3 = true ∧ tmB t = inB t.nu (loF (k : Int)) (hiF (k : Int))) := by
  obtain ⟨f, o, n⟩ := t
  unfold tmB inB
  dsimp only
  by_cases h1 : 1 ≤ f ∧ f ≤ 5
  · by_cases h2 : 1 ≤ o ∧ o ≤ 3
    · refine .inr (.inr ⟨f.toNat, by omega, by omega, decide_eq_true h1, decide_eq_true h2, ?_⟩)
      rw [show ((f.toNat : Nat) : Int) = f by omega, Bool.eq_iff_iff]
      simp
      omega
    · exact .inr (.inl ⟨decide_eq_true h1, decide_eq_false h2, decide_eq_false (fun h => h2 h.2.1)⟩)
  · exact .inl ⟨decide_eq_false h1, decide_eq_false (fun h => h1 h.1)⟩
theorem clOne_bad {c : CCl} (h : c.ts.all tmB = false) : clOne c = false := by unfold clOne sayB; rw [h]; simp
theorem clOne_end {c : CCl} (h1 : (c.ts.length : Int) ≤ 8) (h2 : nameB c.nm = true) (h : c.ts.all tmB = true) : clOne c = actB c.ac c.nu := by unfold clOne sayB; rw [h, h2, decide_eq_true (by omega)]; simp
end Go.Proofs.Ytfofdeenpcbglaa
