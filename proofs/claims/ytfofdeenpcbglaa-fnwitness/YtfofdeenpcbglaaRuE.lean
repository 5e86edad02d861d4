/-
  Contracts of the specification's l06Find and ClausesOK.
-/
import Derived.Test.YtfofdeenpcbglaaRuD
namespace Go.Proofs.Ytfofdeenpcbglaa
open Go.ChangeShapes Go.WideShapes Go.ChangeAt Go.RowKit Go.Deep
set_option linter.unusedVariables false

theorem clNames_getD (cs : List CCl) (k : Nat) : (cs.map (·.nm)).getD k ByteArray.empty = (cs.getD k zCl).nm := by
  rw [List.getD_eq_getElem?_getD, List.getD_eq_getElem?_getD, List.getElem?_map]
  cases cs[k]? <;> rfl
theorem clOne_name {c : CCl} (h : clOne c = true) : nameB c.nm = true := by
  unfold clOne at h
  simp only [Bool.and_eq_true] at h
  exact h.1.2
theorem clAll_has {cs : List CCl} {k : Nat} (h : k < cs.length) (hq : hasB ((cs.map (·.nm)).take k) (cs.getD k zCl).nm = true) : clAll cs = false := by
  unfold clAll
  split
  · rfl
  · rw [diffN_stop (k := k) (by simpa using h) (.inr (by rw [clNames_getD]; exact hq))]; rfl
theorem clAll_one {cs : List CCl} {k : Nat} (h : k < cs.length) (hq : clOne (cs.getD k zCl) = false) : clAll cs = false := by
  unfold clAll
  split
  · rfl
  · rw [cls_fail h hq]; simp
theorem clAll_end {cs : List CCl} (h6 : cs.length ≤ 40) (h1 : diffN (cs.map (·.nm)) cs.length = true) (h2 : (cs.take cs.length).all clOne = true) : clAll cs = true := by
  unfold clAll
  rw [if_neg (by omega)]
  rw [List.take_length] at h2
  unfold diffB
  rw [List.length_map, h1, h2]; rfl

end Go.Proofs.Ytfofdeenpcbglaa
