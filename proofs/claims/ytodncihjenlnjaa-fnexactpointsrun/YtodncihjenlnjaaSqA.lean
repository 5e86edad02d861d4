/-
  The specification's account in the midst of its acts, in memory.
-/
import Derived.Test.YtodncihjenlnjaaPpS
namespace Go.Proofs.Ytodncihjenlnjaa
open Go.ChangeShapes Go.WideShapes Go.ChangeAt Go.RowKit Go.Deep
set_option linter.unusedVariables false

def SgIs (W : World) (rb : Nat) (day sp ex : Int) (lv tv : Value) : Prop := W.heap[rb]? = some (.cells #[.int .i64 day, .int .i64 sp, .int .i64 ex, lv, tv] 42 (0, 0))
theorem SgIs.cells {W : World} {rb : Nat} {day sp ex : Int} {lv tv : Value} (h : SgIs W rb day sp ex lv tv) : W.cell? ⟨rb, 0, none⟩ = some (.int .i64 day) ∧ W.cell? ⟨rb, 1, none⟩ = some (.int .i64 sp) ∧ W.cell? ⟨rb, 2, none⟩ = some (.int .i64 ex) ∧ W.cell? ⟨rb, 3, none⟩ = some lv ∧ W.cell? ⟨rb, 4, none⟩ = some tv :=
  ⟨blkCell h 0 _ rfl, blkCell h 1 _ rfl, blkCell h 2 _ rfl, blkCell h 3 _ rfl, blkCell h 4 _ rfl⟩
theorem SgIs.free {W : World} {rb : Nat} {day sp ex : Int} {lv tv : Value} (h : SgIs W rb day sp ex lv tv) (j : Nat) : W.frozen? ⟨rb, j, none⟩ = false := blkFree h j
theorem SgIs.lt {W : World} {rb : Nat} {day sp ex : Int} {lv tv : Value} (h : SgIs W rb day sp ex lv tv) : rb < W.heap.size := blkLt h
theorem SgIs.later {W : World} {rb : Nat} {day sp ex : Int} {lv tv : Value} {W' : World} (h : SgIs W rb day sp ex lv tv) (hb : Below W.heap.size W W') : SgIs W' rb day sp ex lv tv := (hb.block rb h.lt).trans h
theorem SgIs.of {W : World} {rb : Nat} {day sp ex : Int} {lv tv : Value} {W' : World} (h : SgIs W rb day sp ex lv tv) (e : W'.heap[rb]? = W.heap[rb]?) : SgIs W' rb day sp ex lv tv := e.trans h
theorem SgIs.set0 {W : World} {rb : Nat} {day sp ex : Int} {lv tv : Value} (h : SgIs W rb day sp ex lv tv) (x : Int) : SgIs (W.setCell ⟨rb, 0, none⟩ (.int .i64 x)) rb x sp ex lv tv := by
  have e := heap_setCell_same W rb 0 _ _ (.int .i64 x) h
  simp only [List.setIfInBounds_toArray, List.set_cons_zero] at e
  exact e
theorem SgIs.set1 {W : World} {rb : Nat} {day sp ex : Int} {lv tv : Value} (h : SgIs W rb day sp ex lv tv) (x : Int) : SgIs (W.setCell ⟨rb, 1, none⟩ (.int .i64 x)) rb day x ex lv tv := by
  have e := heap_setCell_same W rb 1 _ _ (.int .i64 x) h
  simp only [List.setIfInBounds_toArray, List.set_cons_zero, List.set_cons_succ] at e
  exact e
theorem SgIs.set2 {W : World} {rb : Nat} {day sp ex : Int} {lv tv : Value} (h : SgIs W rb day sp ex lv tv) (x : Int) : SgIs (W.setCell ⟨rb, 2, none⟩ (.int .i64 x)) rb day sp x lv tv := by
  have e := heap_setCell_same W rb 2 _ _ (.int .i64 x) h
  simp only [List.setIfInBounds_toArray, List.set_cons_zero, List.set_cons_succ] at e
  exact e
theorem SgIs.set3 {W : World} {rb : Nat} {day sp ex : Int} {lv tv : Value} (h : SgIs W rb day sp ex lv tv) (x : Value) : SgIs (W.setCell ⟨rb, 3, none⟩ (x)) rb day sp ex x tv := by
  have e := heap_setCell_same W rb 3 _ _ (x) h
  simp only [List.setIfInBounds_toArray, List.set_cons_zero, List.set_cons_succ] at e
  exact e
theorem SgIs.set4 {W : World} {rb : Nat} {day sp ex : Int} {lv tv : Value} (h : SgIs W rb day sp ex lv tv) (x : Value) : SgIs (W.setCell ⟨rb, 4, none⟩ (x)) rb day sp ex lv x := by
  have e := heap_setCell_same W rb 4 _ _ (x) h
  simp only [List.setIfInBounds_toArray, List.set_cons_zero, List.set_cons_succ] at e
  exact e
/-- A row of lots is no run. -/
theorem sg_ne {W : World} {rb : Nat} {day sp ex : Int} {lv tv : Value} {B n : Nat} {v : Value} {xs : List Value} (h : SgIs W rb day sp ex lv tv) (hr : W.ownsRow B 67 2 v n xs) {q : Nat} (hq : v.ownBlock = some q) : q ≠ rb := fun e => by
  obtain ⟨cur, hc⟩ := row_type hr hq
  have h2 : W.heap[rb]? = _ := h
  rw [e, h2] at hc
  simp at hc
/-- The numbers of a row of lots. -/
theorem lo_cells {B g cp : Nat} {W : World} {L : List RLo} (h : W.ownsRow B 67 2 (.slice (some ⟨g, 0, none⟩) L.length cp) L.length (loCells L)) (i : Nat) (hi : i < L.length) : W.cell? ⟨g, i * 2, none⟩ = some (.int .i64 (L.getD i zLo).nu) ∧ W.cell? ⟨g, i * 2 + 1, none⟩ = some (.int .i64 (L.getD i zLo).un) :=
  ⟨by rw [h.cellAt _ (by omega)]; exact (loCells_at L i hi).1, by rw [h.cellAt _ (by omega)]; exact (loCells_at L i hi).2⟩
theorem lo_free {B g cp n : Nat} {W : World} {xs : List Value} (h : W.ownsRow B 67 2 (.slice (some ⟨g, 0, none⟩) n cp) n xs) (j : Nat) : W.frozen? ⟨g, j, none⟩ = false := by
  obtain ⟨cur, hc⟩ := row_type h (q := g) rfl
  exact blkFree hc j
end Go.Proofs.Ytodncihjenlnjaa
