/-
  The laws' own helpers on lists of PriceRow: sz.., to...
-/
import Derived.Test.YtgfgecpgfcipnaaPrA
namespace Go.Proofs.Ytgfgecpgfcipnaa
open Go.ChangeShapes Go.WideShapes Go.ChangeAt Go.RowKit Go.Deep
set_option linter.unusedVariables false


def prCell (r : RPr) (j : Nat) : Value := if j = 0 then .string r.art else if j = 1 then .string r.zn else if j = 2 then .int .i64 r.lv else if j = 3 then .int .i64 r.fr else if j = 4 then .int .i64 r.to else .int .i64 r.am
theorem prInfo : (Try.prog.info? 36).map (fun i => (i.zero, i.size, i.bytes)) = some (some (.agg #[.string ⟨#[]⟩, .string ⟨#[]⟩, .int .i64 0, .int .i64 0, .int .i64 0, .int .i64 0]), 6, 64) := by kernel_rfl
theorem makePrs (n : Nat) (hn : n ≤ 100000000) (w : World) :
    (Instr.makeSlice 23 (.int .i64 (n : Int)) (.int .i64 (n : Int))).run Try.prog w = .ok (.slice (some ⟨w.heap.size, 0, none⟩) n n) (w.alloc (.cells (madeCells #[.string ⟨#[]⟩, .string ⟨#[]⟩, .int .i64 0, .int .i64 0, .int .i64 0, .int .i64 0] (n * 6)) 36)) := by
  obtain ⟨i, hi, hzz⟩ := Option.map_eq_some_iff.1 prInfo
  simp only [Prod.mk.injEq] at hzz
  obtain ⟨hz, hs, hb⟩ := hzz
  have hr := run_make (P := Try.prog) w 23 36 i _ Try.underlying23 hi hz .i64 .i64 (n : Int) (n : Int) (by omega) (Int.le_refl _) (by rw [hb]; omega) (by omega)
  simp only [Int.toNat_natCast, hs] at hr
  exact hr
theorem prs_made (w : World) (n : Nat) : (w.alloc (.cells (madeCells #[.string ⟨#[]⟩, .string ⟨#[]⟩, .int .i64 0, .int .i64 0, .int .i64 0, .int .i64 0] (n * 6)) 36)).rowIs w.heap.size 36 (n * 6) (fun j => prCell zPr (j % 6)) := by
  refine ⟨_, heapNew _ _, size_madeCells _ _, fun i hi => ?_⟩
  have h6 : i % 6 = 0 ∨ i % 6 = 1 ∨ i % 6 = 2 ∨ i % 6 = 3 ∨ i % 6 = 4 ∨ i % 6 = 5 := by omega
  unfold prCell zPr
  rcases h6 with h | h | h | h | h | h <;> simp [madeCells, hi, h] <;> rfl
def prFill (rs : List RPr) (k j : Nat) : Value := prCell (if j / 6 < k then rs.getD (j / 6) zPr else zPr) (j % 6)
theorem prFill_set {w : World} {b : Nat} {rs : List RPr} {n k : Nat} (h : w.rowIs b 36 (n * 6) (prFill rs k)) :
    ((((((w.setCell ⟨b, k * 6, none⟩ (.string (rs.getD k zPr).art)).setCell ⟨b, k * 6 + 1, none⟩ (.string (rs.getD k zPr).zn)).setCell ⟨b, k * 6 + 2, none⟩ (.int .i64 (rs.getD k zPr).lv)).setCell ⟨b, k * 6 + 3, none⟩ (.int .i64 (rs.getD k zPr).fr)).setCell ⟨b, k * 6 + 4, none⟩ (.int .i64 (rs.getD k zPr).to)).setCell ⟨b, k * 6 + 5, none⟩ (.int .i64 (rs.getD k zPr).am)).rowIs b 36 (n * 6) (prFill rs (k + 1)) := by
  refine ((((((h.set (k * 6) _).set (k * 6 + 1) _).set (k * 6 + 2) _).set (k * 6 + 3) _).set (k * 6 + 4) _).set (k * 6 + 5) _).congr fun j hj => ?_
  unfold prFill
  by_cases e5 : j = k * 6 + 5
  · rw [if_pos e5, if_pos (by omega), show j / 6 = k by omega, show j % 6 = 5 by omega]; rfl
  rw [if_neg e5]
  by_cases e4 : j = k * 6 + 4
  · rw [if_pos e4, if_pos (by omega), show j / 6 = k by omega, show j % 6 = 4 by omega]; rfl
  rw [if_neg e4]
  by_cases e3 : j = k * 6 + 3
  · rw [if_pos e3, if_pos (by omega), show j / 6 = k by omega, show j % 6 = 3 by omega]; rfl
  rw [if_neg e3]
  by_cases e2 : j = k * 6 + 2
  · rw [if_pos e2, if_pos (by omega), show j / 6 = k by omega, show j % 6 = 2 by omega]; rfl
  rw [if_neg e2]
  by_cases e1 : j = k * 6 + 1
  · rw [if_pos e1, if_pos (by omega), show j / 6 = k by omega, show j % 6 = 1 by omega]; rfl
  rw [if_neg e1]
  by_cases e0 : j = k * 6
  · rw [if_pos e0, if_pos (by omega), show j / 6 = k by omega, show j % 6 = 0 by omega]; rfl
  rw [if_neg e0]
  by_cases h : j / 6 < k
  · rw [if_pos h, if_pos (by omega)]
  · rw [if_neg h, if_neg (by omega)]
def FreePr (w : World) (b n : Nat) : Prop := ∀ j, j < n * 6 → w.frozen? ⟨b, j, none⟩ = false
theorem FreePr.below {B : Nat} {w w' : World} {b n : Nat} (h : FreePr w b n) (hb : Below B w w') (hB : b < B) : FreePr w' b n := fun j hj => (hb.frozen (p := ⟨b, j, none⟩) hB).trans (h j hj)
theorem prsAt_of {w : World} {b : Nat} {rs : List RPr} (h : w.rowIs b 36 (rs.length * 6) (prFill rs rs.length)) : PrsAt w b 0 rs := fun i hi => by
  refine ⟨?_, ?_, ?_, ?_, ?_, ?_⟩
  · rw [h.cell (i := 0 + i * 6) (by omega)]; unfold prFill; rw [if_pos (by omega), show (0 + i * 6) / 6 = i by omega, show (0 + i * 6) % 6 = 0 by omega]; rfl
  · rw [h.cell (i := 0 + i * 6 + 1) (by omega)]; unfold prFill; rw [if_pos (by omega), show (0 + i * 6 + 1) / 6 = i by omega, show (0 + i * 6 + 1) % 6 = 1 by omega]; rfl
  · rw [h.cell (i := 0 + i * 6 + 2) (by omega)]; unfold prFill; rw [if_pos (by omega), show (0 + i * 6 + 2) / 6 = i by omega, show (0 + i * 6 + 2) % 6 = 2 by omega]; rfl
  · rw [h.cell (i := 0 + i * 6 + 3) (by omega)]; unfold prFill; rw [if_pos (by omega), show (0 + i * 6 + 3) / 6 = i by omega, show (0 + i * 6 + 3) % 6 = 3 by omega]; rfl
  · rw [h.cell (i := 0 + i * 6 + 4) (by omega)]; unfold prFill; rw [if_pos (by omega), show (0 + i * 6 + 4) / 6 = i by omega, show (0 + i * 6 + 4) % 6 = 4 by omega]; rfl
  · rw [h.cell (i := 0 + i * 6 + 5) (by omega)]; unfold prFill; rw [if_pos (by omega), show (0 + i * 6 + 5) / 6 = i by omega, show (0 + i * 6 + 5) % 6 = 5 by omega]; rfl


end Go.Proofs.Ytgfgecpgfcipnaa
