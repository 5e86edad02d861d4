/-
  Contract of the specification's l06Least.
-/
import Derived.Test.YtfofdeenpcbglaaRcA
namespace Go.Proofs.Ytfofdeenpcbglaa
open Go.ChangeShapes Go.WideShapes Go.ChangeAt Go.RowKit Go.Deep
set_option linter.unusedVariables false

def lowsL (ts : List RTm) (k : Nat) : List Int := (List.range k).map fun (i : Nat) => if i = 0 then 0 else lowT (i : Int) ts
theorem lowsL_one (ts : List RTm) : lowsL ts 1 = [0] := rfl
theorem lowsL_next (ts : List RTm) (k : Nat) (h : 1 ≤ k) : lowsL ts k ++ [lowT (k : Int) ts] = lowsL ts (k + 1) := by
  unfold lowsL
  rw [List.range_succ, List.map_append]
  simp [show k ≠ 0 by omega]
theorem lowsL_length (ts : List RTm) (k : Nat) : (lowsL ts k).length = k := by simp [lowsL]
theorem lowsL_at (ts : List RTm) (i : Nat) (h : 1 ≤ i) (h' : i ≤ 5) : (lowsL ts 6).getD i 0 = lowT (i : Int) ts := by
  unfold lowsL
  simp [List.getD_eq_getElem?_getD, show i < 6 by omega, show i ≠ 0 by omega]
/-- No field below k is empty. -/
def canN (ts : List RTm) (k : Nat) : Prop := ∀ i : Nat, 1 ≤ i → i < k → lowT (i : Int) ts ≤ highT (i : Int) ts
theorem canT_six {ts : List RTm} (h : canN ts 6) : canT ts = true := by
  unfold canT
  rw [emptyL_rm]
  have h1 := h 1 (by omega) (by omega)
  have h2 := h 2 (by omega) (by omega)
  have h3 := h 3 (by omega) (by omega)
  have h4 := h 4 (by omega) (by omega)
  have h5 := h 5 (by omega) (by omega)
  simp only [Bool.not_eq_true', Bool.or_eq_false_iff, decide_eq_false_iff_not]
  refine ⟨?_, ?_, ?_, ?_, ?_⟩ <;> (intro q; simp at *; omega)
theorem canT_no {ts : List RTm} {k : Nat} (h : 1 ≤ k) (h' : k ≤ 5) (hq : highT (k : Int) ts < lowT (k : Int) ts) : canT ts = false := by
  unfold canT
  rw [emptyL_rm]
  rcases (by omega : k = 1 ∨ k = 2 ∨ k = 3 ∨ k = 4 ∨ k = 5) with rfl | rfl | rfl | rfl | rfl <;> simp at hq <;> simp [hq]
/-- What l06Least answers. -/
def leastV (ts : List RTm) : Array Value := if canT ts = true then factsV (rm ts) else #[.int .i64 0, .int .i64 0, .int .i64 0, .int .i64 0, .int .i64 0]
theorem leastV_yes {ts : List RTm} (h : canT ts = true) : leastV ts = #[.int .i64 (lowT 1 ts), .int .i64 (lowT 2 ts), .int .i64 (lowT 3 ts), .int .i64 (lowT 4 ts), .int .i64 (lowT 5 ts)] := by
  unfold leastV; rw [if_pos h]; rfl
theorem leastV_no {ts : List RTm} (h : canT ts = false) : leastV ts = #[.int .i64 0, .int .i64 0, .int .i64 0, .int .i64 0, .int .i64 0] := by
  unfold leastV; rw [if_neg (by rw [h]; simp)]
end Go.Proofs.Ytfofdeenpcbglaa
