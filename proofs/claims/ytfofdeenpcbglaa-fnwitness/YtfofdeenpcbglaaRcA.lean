/-
  Contracts of the specification's l06Bounds and l06Least.
-/
import Derived.Test.YtfofdeenpcbglaaRuD
import Derived.Test.YtfofdeenpcbglaaRoC
import Derived.Test.YtfofdeenpcbglaaRow1
namespace Go.Proofs.Ytfofdeenpcbglaa
open Go.ChangeShapes Go.WideShapes Go.ChangeAt Go.RowKit Go.Deep
set_option linter.unusedVariables false

theorem step_ways (f : Int) (t : RTm) (l0 h0 l1 h1 : Int) (e1 : l1 = stepL f l0 t) (e2 : h1 = stepH f h0 t) : ((t.fd == f) = false ∧ l1 = l0 ∧ h1 = h0) ∨ (t.fd = f ∧ t.op = 2 ∧ l1 = l0 ∧ h1 = min h0 t.nu) ∨ (t.fd = f ∧ t.op = 1 ∧ l1 = max l0 t.nu ∧ h1 = h0) ∨ (t.fd = f ∧ (t.op == 2) = false ∧ (t.op == 1) = false ∧ l1 = max l0 t.nu ∧ h1 = min h0 t.nu) := by
  unfold stepL at e1
  unfold stepH at e2
  by_cases hf : t.fd = f
  · rcases (by omega : t.op = 2 ∨ t.op = 1 ∨ (t.op ≠ 2 ∧ t.op ≠ 1)) with h | h | ⟨h, h'⟩
    · rw [if_neg (by omega)] at e1; rw [if_pos (by omega)] at e2
      exact .inr (.inl ⟨hf, h, e1, e2⟩)
    · rw [if_pos (by omega)] at e1; rw [if_neg (by omega)] at e2
      exact .inr (.inr (.inl ⟨hf, h, e1, e2⟩))
    · rw [if_pos (by omega)] at e1; rw [if_pos (by omega)] at e2
      exact .inr (.inr (.inr ⟨hf, by simpa using h, by simpa using h', e1, e2⟩))
  · rw [if_neg (by omega)] at e1; rw [if_neg (by omega)] at e2
    exact .inl ⟨by simpa using hf, e1, e2⟩
theorem lowT_take (f : Int) (ts : List RTm) (k : Nat) (h : k < ts.length) : lowT f (ts.take (k + 1)) = stepL f (lowT f (ts.take k)) (ts.getD k zTm) := by
  have e : ts.getD k zTm = ts[k] := by simp [List.getD_eq_getElem?_getD, h]
  rw [List.take_succ_eq_append_getElem h, e, lowT_snoc]
theorem highT_take (f : Int) (ts : List RTm) (k : Nat) (h : k < ts.length) : highT f (ts.take (k + 1)) = stepH f (highT f (ts.take k)) (ts.getD k zTm) := by
  have e : ts.getD k zTm = ts[k] := by simp [List.getD_eq_getElem?_getD, h]
  rw [List.take_succ_eq_append_getElem h, e, highT_snoc]
end Go.Proofs.Ytfofdeenpcbglaa
