/-
  The laws' own helpers on lists of Term: sz.., to...
-/
import Derived.Test.YtfofdeenpcbglaaTmA
namespace Go.Proofs.Ytfofdeenpcbglaa
open Go.ChangeShapes Go.WideShapes Go.ChangeAt Go.RowKit Go.Deep
set_option linter.unusedVariables false

def tmCell (r : RTm) (j : Nat) : Value := if j = 0 then .int .i64 r.fd else if j = 1 then .int .i64 r.op else .int .i64 r.nu
theorem tmInfo : (Try.prog.info? 37).map (fun i => (i.zero, i.size, i.bytes)) = some (some (.agg #[.int .i64 0, .int .i64 0, .int .i64 0]), 3, 24) := by kernel_rfl
theorem makeTms (n : Nat) (hn : n ≤ 100000000) (w : World) :
    (Instr.makeSlice 23 (.int .i64 (n : Int)) (.int .i64 (n : Int))).run Try.prog w = .ok (.slice (some ⟨w.heap.size, 0, none⟩) n n) (w.alloc (.cells (madeCells #[.int .i64 0, .int .i64 0, .int .i64 0] (n * 3)) 37)) := by
  obtain ⟨i, hi, hzz⟩ := Option.map_eq_some_iff.1 tmInfo
  simp only [Prod.mk.injEq] at hzz
  obtain ⟨hz, hs, hb⟩ := hzz
  have hr := run_make (P := Try.prog) w 23 37 i _ Try.underlying23 hi hz .i64 .i64 (n : Int) (n : Int) (by omega) (Int.le_refl _) (by rw [hb]; omega) (by omega)
  simp only [Int.toNat_natCast, hs] at hr
  exact hr
theorem tms_made (w : World) (n : Nat) : (w.alloc (.cells (madeCells #[.int .i64 0, .int .i64 0, .int .i64 0] (n * 3)) 37)).rowIs w.heap.size 37 (n * 3) (fun j => tmCell zTm (j % 3)) := by
  refine ⟨_, heapNew _ _, size_madeCells _ _, fun i hi => ?_⟩
  have h6 : i % 3 = 0 ∨ i % 3 = 1 ∨ i % 3 = 2 := by omega
  unfold tmCell zTm
  rcases h6 with h | h | h <;> simp [madeCells, hi, h] <;> rfl
def tmFill (rs : List RTm) (k j : Nat) : Value := tmCell (if j / 3 < k then rs.getD (j / 3) zTm else zTm) (j % 3)
theorem tmFill_set {w : World} {b : Nat} {rs : List RTm} {n k : Nat} (h : w.rowIs b 37 (n * 3) (tmFill rs k)) :
    (((w.setCell ⟨b, k * 3, none⟩ (.int .i64 (rs.getD k zTm).fd)).setCell ⟨b, k * 3 + 1, none⟩ (.int .i64 (rs.getD k zTm).op)).setCell ⟨b, k * 3 + 2, none⟩ (.int .i64 (rs.getD k zTm).nu)).rowIs b 37 (n * 3) (tmFill rs (k + 1)) := by
  refine (((h.set (k * 3) _).set (k * 3 + 1) _).set (k * 3 + 2) _).congr fun j hj => ?_
  unfold tmFill
  by_cases e2 : j = k * 3 + 2
  · rw [if_pos e2, if_pos (by omega), show j / 3 = k by omega, show j % 3 = 2 by omega]; rfl
  rw [if_neg e2]
  by_cases e1 : j = k * 3 + 1
  · rw [if_pos e1, if_pos (by omega), show j / 3 = k by omega, show j % 3 = 1 by omega]; rfl
  rw [if_neg e1]
  by_cases e0 : j = k * 3
  · rw [if_pos e0, if_pos (by omega), show j / 3 = k by omega, show j % 3 = 0 by omega]; rfl
  rw [if_neg e0]
  by_cases h : j / 3 < k
  · rw [if_pos h, if_pos (by omega)]
  · rw [if_neg h, if_neg (by omega)]
def FreeTm (w : World) (b n : Nat) : Prop := ∀ j, j < n * 3 → w.frozen? ⟨b, j, none⟩ = false
theorem FreeTm.below {B : Nat} {w w' : World} {b n : Nat} (h : FreeTm w b n) (hb : Below B w w') (hB : b < B) : FreeTm w' b n := fun j hj => (hb.frozen (p := ⟨b, j, none⟩) hB).trans (h j hj)
theorem tmsAt_of {w : World} {b : Nat} {rs : List RTm} (h : w.rowIs b 37 (rs.length * 3) (tmFill rs rs.length)) : TmsAt w b 0 rs := fun i hi => by
  refine ⟨?_, ?_, ?_⟩
  · rw [h.cell (i := 0 + i * 3) (by omega)]; unfold tmFill; rw [if_pos (by omega), show (0 + i * 3) / 3 = i by omega, show (0 + i * 3) % 3 = 0 by omega]; rfl
  · rw [h.cell (i := 0 + i * 3 + 1) (by omega)]; unfold tmFill; rw [if_pos (by omega), show (0 + i * 3 + 1) / 3 = i by omega, show (0 + i * 3 + 1) % 3 = 1 by omega]; rfl
  · rw [h.cell (i := 0 + i * 3 + 2) (by omega)]; unfold tmFill; rw [if_pos (by omega), show (0 + i * 3 + 2) / 3 = i by omega, show (0 + i * 3 + 2) % 3 = 2 by omega]; rfl

end Go.Proofs.Ytfofdeenpcbglaa
