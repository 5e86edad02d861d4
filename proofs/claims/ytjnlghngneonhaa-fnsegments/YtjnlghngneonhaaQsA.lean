/-
  Numbers that all lie between two bounds, and a share num / den that is right; contracts of the program's span.has, span.hasAll (with its closure, and the library's slices.IndexFunc, ContainsFunc at it), salesOK, partsOK and of the specification's l16Sales.
-/
import Derived.Test.YtjnlghngneonhaaLists0
import Derived.Test.YtjnlghngneonhaaRate
namespace Go.Proofs.Ytjnlghngneonhaa
open Go.ChangeShapes Go.WideShapes Go.ChangeAt Go.RowKit Go.Joins
set_option linter.unusedVariables false

def alB (lo hi : Int) (xs : List Int) : Bool := xs.all (fun x => inB x lo hi)
theorem al_take (lo hi : Int) (r : List Int) (k : Nat) (h : k < r.length) : alB lo hi (r.take (k + 1)) = (alB lo hi (r.take k) && inB (r.getD k 0) lo hi) := by
  unfold alB
  rw [List.take_succ_eq_append_getElem h, List.all_append]
  have e : r.getD k 0 = r[k] := by simp [List.getD_eq_getElem?_getD, h]
  rw [e]; simp
theorem al_fail {lo hi : Int} {r : List Int} {k : Nat} (h : k < r.length) (hp : inB (r.getD k 0) lo hi = false) : alB lo hi r = false := by
  have e : r.getD k 0 = r[k] := by simp [List.getD_eq_getElem?_getD, h]
  rw [e] at hp
  unfold alB
  rw [List.all_eq_false]
  exact ⟨r[k], List.getElem_mem _, by simp [hp]⟩
theorem al_mem {lo hi : Int} {r : List Int} (h : alB lo hi r = true) : ∀ x ∈ r, lo ≤ x ∧ x ≤ hi := fun x hx => by
  unfold alB at h
  rw [List.all_eq_true] at h
  have := h x hx
  unfold inB at this
  simpa using this
theorem al_of {lo hi : Int} {r : List Int} (h : ∀ x ∈ r, lo ≤ x ∧ x ≤ hi) : alB lo hi r = true := by
  unfold alB
  rw [List.all_eq_true]
  intro x hx
  exact decide_eq_true (h x hx)
theorem al_getD {lo hi : Int} {r : List Int} (h : alB lo hi r = true) (h0 : lo ≤ 0 ∧ 0 ≤ hi) (k : Nat) : lo ≤ r.getD k 0 ∧ r.getD k 0 ≤ hi := by
  by_cases hk : k < r.length
  · exact getD_bound (al_mem h) k hk
  · rw [List.getD_eq_getElem?_getD, List.getElem?_eq_none (by omega)]; exact h0
def ptB (l n d : Int) : Bool := inB d 1 1000 && inB n l d
theorem pt_facts {l n d : Int} (h : ptB l n d = true) : (1 ≤ d ∧ d ≤ 1000) ∧ l ≤ n ∧ n ≤ d := by
  unfold ptB inB at h
  simp only [Bool.and_eq_true, decide_eq_true_eq] at h
  exact ⟨h.1, h.2⟩
theorem pt_of {l n d : Int} (h : (1 ≤ d ∧ d ≤ 1000) ∧ l ≤ n ∧ n ≤ d) : ptB l n d = true := by
  unfold ptB inB
  simp only [Bool.and_eq_true, decide_eq_true_eq]
  exact ⟨h.1, h.2⟩
end Go.Proofs.Ytjnlghngneonhaa
