/-
  Contracts of the program's room.covers and of the specification's l06Covers.
-/
import Derived.Test.YtfofdeenpcbglaaRcB
namespace Go.Proofs.Ytfofdeenpcbglaa
open Go.ChangeShapes Go.WideShapes Go.ChangeAt Go.RowKit Go.Deep
set_option linter.unusedVariables false

theorem list12 (M : List Int) (h : M.length = 12) : ∃ a0 a1 a2 a3 a4 a5 a6 a7 a8 a9 a10 a11, M = [a0, a1, a2, a3, a4, a5, a6, a7, a8, a9, a10, a11] := by
  match M, h with
  | [a0, a1, a2, a3, a4, a5, a6, a7, a8, a9, a10, a11], _ => exact ⟨a0, a1, a2, a3, a4, a5, a6, a7, a8, a9, a10, a11, rfl⟩
theorem run_index_room (M : List Int) (hM : M.length = 12) (k : Nat) (hk : k < 6) (w : World) : (Instr.index 48 (.agg (rowI M)) (.int .i64 (k : Int))).run Try.prog w = .ok (.agg #[.int .i64 (M.getD (k * 2) 0), .int .i64 (M.getD (k * 2 + 1) 0)]) w := by
  obtain ⟨a0, a1, a2, a3, a4, a5, a6, a7, a8, a9, a10, a11, rfl⟩ := list12 M hM
  rcases (by omega : k = 0 ∨ k = 1 ∨ k = 2 ∨ k = 3 ∨ k = 4 ∨ k = 5) with rfl | rfl | rfl | rfl | rfl | rfl <;> simp [go_sem, Instr.index, rowI]
def covN (L M : List Int) (k : Nat) : Bool := (List.range k).all fun i => decide (L.getD (2 * i) 0 ≤ M.getD (2 * i) 0 ∧ M.getD (2 * i + 1) 0 ≤ L.getD (2 * i + 1) 0)
theorem covN_next {L M : List Int} {k : Nat} (h : covN L M k = true) (h1 : L.getD (2 * k) 0 ≤ M.getD (2 * k) 0) (h2 : M.getD (2 * k + 1) 0 ≤ L.getD (2 * k + 1) 0) : covN L M (k + 1) = true := by
  unfold covN at *
  rw [List.range_succ, List.all_append, h]
  simpa using ⟨h1, h2⟩
theorem covL_no {L M : List Int} {k : Nat} (h : k < 6) (hk : M.getD (2 * k) 0 < L.getD (2 * k) 0 ∨ L.getD (2 * k + 1) 0 < M.getD (2 * k + 1) 0) : covL L M = false := by
  unfold covL
  rw [List.all_eq_false]
  refine ⟨k, by simpa using h, ?_⟩
  rw [decide_eq_false (by omega)]
  simp
end Go.Proofs.Ytfofdeenpcbglaa
