/-
  Rows of their own whose cells are turned into marks, one by one; nothing of the program is in it.
-/
import Derived.Test.YtillkllkekhmfaaRowG
namespace Go.Proofs.Ytillkllkekhmfaa
open Go.ChangeShapes Go.WideShapes Go.ChangeAt Go.RowKit Go.Deep
set_option linter.unusedVariables false

/-- m marks from k on. -/
def mkV (k m : Nat) : List Value := (List.range m).map fun (j : Nat) => Value.int .i64 ((k : Int) + (j : Int))
/-- Cells of which the first m are marks. -/
def mkC (k m : Nat) (xs : List Value) : List Value := (List.range xs.length).map fun (j : Nat) => if j < m then Value.int .i64 ((k : Int) + (j : Int)) else (xs[j]?).getD undef
theorem mkC_length (k m : Nat) (xs : List Value) : (mkC k m xs).length = xs.length := by simp [mkC]
theorem mkC_get (k m : Nat) (xs : List Value) (j : Nat) (h : j < xs.length) : (mkC k m xs)[j]? = some (if j < m then Value.int .i64 ((k : Int) + (j : Int)) else (xs[j]?).getD undef) := by simp [mkC, h]
theorem mkV_get (k m j : Nat) (h : j < m) : (mkV k m)[j]? = some (Value.int .i64 ((k : Int) + (j : Int))) := by simp [mkV, h]
theorem mkV_length (k m : Nat) : (mkV k m).length = m := by simp [mkV]
theorem mkC_zero (k : Nat) (xs : List Value) : mkC k 0 xs = xs := by
  apply List.ext_getElem?
  intro j
  by_cases h : j < xs.length
  · rw [mkC_get k 0 xs j h]; simp [h]
  · rw [List.getElem?_eq_none (by rw [mkC_length]; omega), List.getElem?_eq_none (by omega)]
theorem mkC_all (k : Nat) (xs : List Value) : mkC k xs.length xs = mkV k xs.length := by
  apply List.ext_getElem?
  intro j
  by_cases h : j < xs.length
  · rw [mkC_get k _ xs j h, mkV_get k _ j h, if_pos h]
  · rw [List.getElem?_eq_none (by rw [mkC_length]; omega), List.getElem?_eq_none (by rw [mkV_length]; omega)]
theorem mkC_set (k m : Nat) (xs : List Value) (h : m < xs.length) : (mkC k m xs).set m (.int .i64 ((k : Int) + (m : Int))) = mkC k (m + 1) xs := by
  apply List.ext_getElem?
  intro j
  by_cases hj : j < xs.length
  · rw [mkC_get k _ xs j hj, List.getElem?_set]
    by_cases e : m = j
    · subst e
      rw [if_pos rfl, if_pos (by rw [mkC_length]; exact h), if_pos (by omega)]
    · rw [if_neg e, mkC_get k m xs j hj]
      by_cases e2 : j < m
      · rw [if_pos e2, if_pos (by omega)]
      · rw [if_neg e2, if_neg (by omega)]
  · rw [List.getElem?_eq_none (by rw [List.length_set, mkC_length]; omega), List.getElem?_eq_none (by rw [mkC_length]; omega)]
/-- Of a row of its own one cell has turned. -/
theorem rowPut {W : World} {B g c n k : Nat} {e : TypeId} {xs : List Value} (h : W.ownsRow B e k (.slice (some ⟨g, 0, none⟩) n c) n xs) (j : Nat) (hj : j < n * k) (u : Value) : (W.setCell ⟨g, j, none⟩ u).ownsRow B e k (.slice (some ⟨g, 0, none⟩) n c) n (xs.set j u) := by
  obtain ⟨h1, h2⟩ := h
  refine ⟨by rw [List.length_set]; exact h1, ?_⟩
  rcases h2 with ⟨q, _⟩ | ⟨g', cap, cur, q, hB, hg, hc, hm, hs, ht⟩
  · simp at q
  · simp at q
    obtain ⟨rfl, rfl⟩ := q
    refine .inr ⟨g, c, cur.setIfInBounds j u, rfl, hB, heap_setCell_same _ _ _ _ _ _ hg, hc, hm, by simpa using hs, ?_⟩
    rw [Array.toList_setIfInBounds, List.take_set, ht]
theorem rowMark {W : World} {B g c n k k0 m : Nat} {e : TypeId} {v : Value} {xs : List Value} (h : W.ownsRow B e k v n (mkC k0 m xs)) (hv : v = .slice (some ⟨g, 0, none⟩) n c) (o : Nat) (ho : o = m ∧ m < n * k) (x : Int) (hx : x = (k0 : Int) + (m : Int)) : (W.setCell ⟨g, o, none⟩ (.int .i64 x)).ownsRow B e k v n (mkC k0 (o + 1) xs) := by
  obtain ⟨rfl, hm⟩ := ho
  subst hv hx
  have hl : xs.length = n * k := by have := h.1; rwa [mkC_length] at this
  have := rowPut h o hm (.int .i64 ((k0 : Int) + (o : Int)))
  rwa [mkC_set k0 o xs (by omega)] at this
theorem rowMarked {W : World} {B g c n k k0 : Nat} {e : TypeId} {v : Value} (h : W.ownsRow B e k v n (mkV k0 (n * k))) (hv : v = .slice (some ⟨g, 0, none⟩) n c) (o : Nat) (ho : o < n * k) (x : Int) (hx : x = (k0 : Int) + (o : Int)) : W.cell? ⟨g, o, none⟩ = some (.int .i64 x) := by
  subst hv hx
  rw [h.cellAt o ho, mkV_get k0 _ o ho]
theorem ownsRow_some {W : World} {B g c n k : Nat} {e : TypeId} {xs : List Value} (h : W.ownsRow B e k (.slice (some ⟨g, 0, none⟩) n c) n xs) (j : Nat) (hj : j < n * k) : ∃ u, W.cell? ⟨g, j, none⟩ = some u := by
  have h1 := h.1
  exact ⟨xs[j]'(by omega), by rw [h.cellAt j hj]; simp [show j < xs.length by omega]⟩
end Go.Proofs.Ytillkllkekhmfaa
