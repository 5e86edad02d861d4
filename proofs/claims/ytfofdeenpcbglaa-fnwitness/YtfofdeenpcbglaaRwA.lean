/-
  Terms that can not all hold, as numbers: what is left when, from the last to the first, each is left out without which the others can not all hold either. Nothing of the program is in it.
-/
import Derived.Test.YtfofdeenpcbglaaRuA
namespace Go.Proofs.Ytfofdeenpcbglaa
open Go.ChangeShapes Go.WideShapes Go.ChangeAt Go.RowKit Go.Deep
set_option linter.unusedVariables false

def pickT (ts : List RTm) (ns : List Nat) : List RTm := ns.map fun i => ts.getD i zTm
/-- What is kept of the last d numbers. -/
def coreR (ts : List RTm) : Nat → List Nat
  | 0 => []
  | d + 1 => if canT (pickT ts (List.range (ts.length - 1 - d) ++ coreR ts d)) = true then (ts.length - 1 - d) :: coreR ts d else coreR ts d
def leftN (ts : List RTm) (d : Nat) : List Nat := List.range (ts.length - d) ++ coreR ts d
def lessN (ts : List RTm) (d : Nat) : List Nat := List.range (ts.length - 1 - d) ++ coreR ts d
def zs (ns : List Nat) : List Int := ns.map fun (x : Nat) => (x : Int)
theorem zs_length (ns : List Nat) : (zs ns).length = ns.length := by simp [zs]
theorem zs_at (ns : List Nat) (i : Nat) : (zs ns).getD i 0 = ((ns.getD i 0 : Nat) : Int) := by
  simp only [zs, List.getD_eq_getElem?_getD, List.getElem?_map]
  cases ns[i]? <;> rfl
theorem coreR_in (ts : List RTm) : ∀ d, d ≤ ts.length → ∀ x ∈ coreR ts d, ts.length - d ≤ x ∧ x < ts.length
  | 0, _, x, hx => by simp [coreR] at hx
  | d + 1, h, x, hx => by
    have ih := coreR_in ts d (by omega)
    unfold coreR at hx
    split at hx
    · rcases List.mem_cons.mp hx with rfl | hx
      · omega
      · have := ih x hx; omega
    · have := ih x hx; omega
theorem coreR_len (ts : List RTm) : ∀ d, (coreR ts d).length ≤ d
  | 0 => Nat.le_refl _
  | d + 1 => by
    have ih := coreR_len ts d
    unfold coreR
    split
    · rw [List.length_cons]; omega
    · omega
theorem leftN_zero (ts : List RTm) : leftN ts 0 = List.range ts.length := by simp [leftN, coreR]
theorem leftN_all (ts : List RTm) : leftN ts ts.length = coreR ts ts.length := by simp [leftN]
theorem leftN_in (ts : List RTm) (d : Nat) (h : d ≤ ts.length) : ∀ x ∈ leftN ts d, x < ts.length := fun x hx => by
  rcases List.mem_append.mp hx with hx | hx
  · have := List.mem_range.mp hx; omega
  · exact (coreR_in ts d h x hx).2
theorem lessN_in (ts : List RTm) (d : Nat) (h : d ≤ ts.length) : ∀ x ∈ lessN ts d, x < ts.length := fun x hx => by
  rcases List.mem_append.mp hx with hx | hx
  · have := List.mem_range.mp hx; omega
  · exact (coreR_in ts d h x hx).2
theorem leftN_len (ts : List RTm) (d : Nat) (h : d ≤ ts.length) : ts.length - d ≤ (leftN ts d).length ∧ (leftN ts d).length ≤ ts.length := by
  have := coreR_len ts d
  simp [leftN]; omega
theorem lessN_len (ts : List RTm) (d : Nat) (h : d < ts.length) : (lessN ts d).length + 1 = (leftN ts d).length := by
  simp [leftN, lessN]; omega
theorem leftN_yes {ts : List RTm} {d : Nat} (h : d < ts.length) (hc : canT (pickT ts (lessN ts d)) = true) : leftN ts (d + 1) = leftN ts d := by
  unfold leftN
  rw [show coreR ts (d + 1) = (ts.length - 1 - d) :: coreR ts d from if_pos hc]
  rw [show ts.length - d = (ts.length - 1 - d) + 1 by omega, List.range_succ, show ts.length - (d + 1) = ts.length - 1 - d by omega]
  simp
theorem leftN_no {ts : List RTm} {d : Nat} (h : d < ts.length) (hc : canT (pickT ts (lessN ts d)) = false) : leftN ts (d + 1) = lessN ts d := by
  unfold leftN
  rw [show coreR ts (d + 1) = coreR ts d from if_neg (fun q => by have q' : canT (pickT ts (lessN ts d)) = true := q; rw [hc] at q'; cases q')]
  rw [show ts.length - (d + 1) = ts.length - 1 - d by omega]
  rfl
theorem leftN_cut {ts : List RTm} {d : Nat} (h : d < ts.length) : leftN ts d = List.range (ts.length - 1 - d) ++ (ts.length - 1 - d) :: coreR ts d := by
  unfold leftN
  rw [show ts.length - d = (ts.length - 1 - d) + 1 by omega, List.range_succ]
  simp
theorem leftN_at {ts : List RTm} {d : Nat} (h : d < ts.length) : (leftN ts d).getD (ts.length - 1 - d) 0 = ts.length - 1 - d := by
  rw [leftN_cut h, List.getD_eq_getElem?_getD, List.getElem?_append_right (by simp)]
  simp
theorem leftN_ne {ts : List RTm} {d : Nat} (h : d < ts.length) (i : Nat) (hi : i < (leftN ts d).length) (hne : i ≠ ts.length - 1 - d) : (leftN ts d).getD i 0 ≠ ts.length - 1 - d := by
  rw [leftN_cut h] at *
  rw [List.getD_eq_getElem?_getD]
  rcases Nat.lt_or_ge i (ts.length - 1 - d) with h1 | h1
  · rw [List.getElem?_append_left (by simpa using h1)]
    simp [h1]
    omega
  · rw [List.getElem?_append_right (by simpa using h1), List.length_range]
    obtain ⟨j, hj⟩ : ∃ j, i - (ts.length - 1 - d) = j + 1 := ⟨i - (ts.length - 1 - d) - 1, by omega⟩
    rw [hj, List.getElem?_cons_succ]
    rw [List.length_append, List.length_range, List.length_cons] at hi
    have hjl : j < (coreR ts d).length := by omega
    rw [List.getElem?_eq_getElem hjl]
    have := coreR_in ts d (by omega) _ (List.getElem_mem hjl)
    simp
    omega
theorem lessN_at {ts : List RTm} {d : Nat} (h : d < ts.length) (i : Nat) : (lessN ts d).getD i 0 = if i < ts.length - 1 - d then (leftN ts d).getD i 0 else (leftN ts d).getD (i + 1) 0 := by
  rw [leftN_cut h]
  unfold lessN
  simp only [List.getD_eq_getElem?_getD]
  rcases Nat.lt_or_ge i (ts.length - 1 - d) with h1 | h1
  · rw [if_pos h1, List.getElem?_append_left (by simpa using h1), List.getElem?_append_left (by simpa using h1)]
  · rw [if_neg (by omega), List.getElem?_append_right (by simpa using h1), List.getElem?_append_right (by simp; omega), List.length_range, show i + 1 - (ts.length - 1 - d) = (i - (ts.length - 1 - d)) + 1 by omega, List.getElem?_cons_succ]
end Go.Proofs.Ytfofdeenpcbglaa
