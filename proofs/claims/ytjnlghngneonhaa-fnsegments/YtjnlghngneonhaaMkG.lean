/-
  Rows of their own whose cells are turned into marks of any kind, one by one; nothing of the program is in it.
-/
import Derived.Test.YtjnlghngneonhaaRowG
namespace Go.Proofs.Ytjnlghngneonhaa
open Go.ChangeShapes Go.WideShapes Go.ChangeAt Go.RowKit Go.Deep
set_option linter.unusedVariables false

def mkA (f : Nat → Value) (m : Nat) : List Value := (List.range m).map f
def mkG (f : Nat → Value) (m : Nat) (xs : List Value) : List Value := (List.range xs.length).map fun (j : Nat) => if j < m then f j else (xs[j]?).getD undef
theorem mkG_length (f : Nat → Value) (m : Nat) (xs : List Value) : (mkG f m xs).length = xs.length := by simp [mkG]
theorem mkG_get (f : Nat → Value) (m : Nat) (xs : List Value) (j : Nat) (h : j < xs.length) : (mkG f m xs)[j]? = some (if j < m then f j else (xs[j]?).getD undef) := by simp [mkG, h]
theorem mkA_get (f : Nat → Value) (m j : Nat) (h : j < m) : (mkA f m)[j]? = some (f j) := by simp [mkA, h]
theorem mkA_length (f : Nat → Value) (m : Nat) : (mkA f m).length = m := by simp [mkA]
theorem mkG_zero (f : Nat → Value) (xs : List Value) : mkG f 0 xs = xs := by
  apply List.ext_getElem?
  intro j
  by_cases h : j < xs.length
  · rw [mkG_get f 0 xs j h]; simp [h]
  · rw [List.getElem?_eq_none (by rw [mkG_length]; omega), List.getElem?_eq_none (by omega)]
theorem mkG_all (f : Nat → Value) (xs : List Value) : mkG f xs.length xs = mkA f xs.length := by
  apply List.ext_getElem?
  intro j
  by_cases h : j < xs.length
  · rw [mkG_get f _ xs j h, mkA_get f _ j h, if_pos h]
  · rw [List.getElem?_eq_none (by rw [mkG_length]; omega), List.getElem?_eq_none (by rw [mkA_length]; omega)]
theorem mkG_set (f : Nat → Value) (m : Nat) (xs : List Value) (h : m < xs.length) : (mkG f m xs).set m (f m) = mkG f (m + 1) xs := by
  apply List.ext_getElem?
  intro j
  by_cases hj : j < xs.length
  · rw [mkG_get f _ xs j hj, List.getElem?_set]
    by_cases e : m = j
    · subst e
      rw [if_pos rfl, if_pos (by rw [mkG_length]; exact h), if_pos (by omega)]
    · rw [if_neg e, mkG_get f m xs j hj]
      by_cases e2 : j < m
      · rw [if_pos e2, if_pos (by omega)]
      · rw [if_neg e2, if_neg (by omega)]
  · rw [List.getElem?_eq_none (by rw [List.length_set, mkG_length]; omega), List.getElem?_eq_none (by rw [mkG_length]; omega)]
theorem rowPutG {W : World} {B g c n k : Nat} {e : TypeId} {xs : List Value} (h : W.ownsRow B e k (.slice (some ⟨g, 0, none⟩) n c) n xs) (j : Nat) (hj : j < n * k) (u : Value) : (W.setCell ⟨g, j, none⟩ u).ownsRow B e k (.slice (some ⟨g, 0, none⟩) n c) n (xs.set j u) := by
  obtain ⟨h1, h2⟩ := h
  refine ⟨by rw [List.length_set]; exact h1, ?_⟩
  rcases h2 with ⟨q, _⟩ | ⟨g', cap, cur, q, hB, hg, hc, hm, hs, ht⟩
  · simp at q
  · simp at q
    obtain ⟨rfl, rfl⟩ := q
    refine .inr ⟨g, c, cur.setIfInBounds j u, rfl, hB, heap_setCell_same _ _ _ _ _ _ hg, hc, hm, by simpa using hs, ?_⟩
    rw [Array.toList_setIfInBounds, List.take_set, ht]
theorem rowMarkG {W : World} {B g c n k m : Nat} {f : Nat → Value} {e : TypeId} {xs : List Value} (h : W.ownsRow B e k (.slice (some ⟨g, 0, none⟩) n c) n (mkG f m xs)) (o : Nat) (ho : o = m ∧ m < n * k) (u : Value) (hu : u = f m) : (W.setCell ⟨g, o, none⟩ u).ownsRow B e k (.slice (some ⟨g, 0, none⟩) n c) n (mkG f (m + 1) xs) := by
  obtain ⟨rfl, hm⟩ := ho
  subst hu
  have hl : xs.length = n * k := by have := h.1; rwa [mkG_length] at this
  have := rowPutG h o hm (f o)
  rwa [mkG_set f o xs (by omega)] at this
theorem rowCellG {W : World} {B g c n k : Nat} {e : TypeId} {xs : List Value} (h : W.ownsRow B e k (.slice (some ⟨g, 0, none⟩) n c) n xs) (o : Nat) (ho : o < n * k) : (∃ v, W.cell? ⟨g, o, none⟩ = some v) ∧ W.frozen? ⟨g, o, none⟩ = false := by
  obtain ⟨cu, hc⟩ := row_type h (q := g) rfl
  refine ⟨⟨xs[o]'(by rw [h.1]; exact ho), ?_⟩, ?_⟩
  · rw [h.cellAt o ho]; simp [h.1, ho]
  · exact blkFree hc o
theorem rowMarkedG {W : World} {B g c n k : Nat} {f : Nat → Value} {e : TypeId} (h : W.ownsRow B e k (.slice (some ⟨g, 0, none⟩) n c) n (mkA f (n * k))) (o : Nat) (ho : o < n * k) (u : Value) (hu : u = f o) : W.cell? ⟨g, o, none⟩ = some u := by
  subst hu
  rw [h.cellAt o ho, mkA_get f _ o ho]
end Go.Proofs.Ytjnlghngneonhaa
