/-
  What the answers of PriceAt and PriceSteps are for drawn rows, and rows of one's own that grow.
-/
import Derived.Test.YtgfgecpgfcipnaaDrawPrc2
import Derived.Test.YtgfgecpgfcipnaaStepE
import Derived.Test.YtgfgecpgfcipnaaPrcMath
namespace Go.Proofs.Ytgfgecpgfcipnaa
open Go.ChangeShapes Go.WideShapes Go.ChangeAt Go.RowKit
set_option linter.unusedVariables false

theorem prc_code {rs : List RPr} {art zn : ByteArray} (hl : rs.length ≤ 11) (hd : ∀ r ∈ rs, DrP r) (ha : art.size ≤ 6) (hz : zn.size ≤ 6) : pfCode rs art zn = 0 := by
  unfold pfCode
  rw [if_neg (by unfold pLong; simp; omega), if_pos (drP_all hd (by omega))]
theorem held_len (rs : List RPr) (art : ByteArray) (m : Int) : (rs.filter (hldB art m)).length ≤ rs.length := List.length_filter_le _ _
/-- At a minute either no row holds, or the amount is told, of all rows and of those that the law keeps. -/
theorem prc_ways {rs : List RPr} {art zn : ByteArray} (hl : rs.length ≤ 11) (hd : ∀ r ∈ rs, DrP r) (ha : art.size ≤ 6) (hz : zn.size ≤ 6) (m : Int) :
    (paCode rs art zn m = 8 ∧ amtAt rs art zn m = -1 ∧ paCode (rs.filter (hldB art m)) art zn m = 8) ∨ (paCode rs art zn m = 0 ∧ paAm rs art zn m = amtAt rs art zn m ∧ paCode (rs.filter (hldB art m)) art zn m = 0 ∧ paAm (rs.filter (hldB art m)) art zn m = amtAt rs art zn m) := by
  have h1 := prc_code hl hd ha hz
  have h2 := prc_code (rs := rs.filter (hldB art m)) (Nat.le_trans (held_len rs art m) hl) (fun r hr => hd r (List.mem_filter.1 hr).1) ha hz
  rcases held_ways rs art zn m with ⟨g1, g2⟩ | ⟨i, j, hi, hj, g1, g2, g3⟩
  · refine .inl ⟨?_, amt_none g1, ?_⟩
    · unfold paCode; rw [if_pos h1, if_neg (by rw [g1]; omega)]
    · unfold paCode; rw [if_pos h2, if_neg (by rw [g2]; omega)]
  · refine .inr ⟨?_, ?_, ?_, ?_⟩
    · unfold paCode; rw [if_pos h1, if_pos (by rw [g1]; omega)]
    · rw [amt_some g1]; unfold paAm; rw [if_pos ⟨h1, by rw [g1]; omega⟩, g1, Int.toNat_natCast]
    · unfold paCode; rw [if_pos h2, if_pos (by rw [g2]; omega)]
    · rw [amt_some g1]; unfold paAm; rw [if_pos ⟨h2, by rw [g2]; omega⟩, g2, Int.toNat_natCast, g3]
theorem prc_steps {rs : List RPr} {art zn : ByteArray} (hl : rs.length ≤ 11) (hd : ∀ r ∈ rs, DrP r) (ha : art.size ≤ 6) (hz : zn.size ≤ 6) {fr to : Int} (h0 : 0 ≤ fr) (h1 : fr < to) (h2 : to ≤ 200) : stCode rs art zn fr to = 0 ∧ stList rs art zn fr to = stepsL rs art zn fr to := by
  have hp := prc_code hl hd ha hz
  have hr : rgB fr to = true := decide_eq_true (by omega)
  have hc : stCode rs art zn fr to = 0 := by unfold stCode; rw [if_pos hp, if_pos hr]
  exact ⟨hc, by unfold stList; rw [if_pos hc]⟩
/-- The ways through the law's own test of a row. -/
theorem hld_ways (art a z : ByteArray) (l f t q m : Int) : ((a.toList == art.toList) = false ∧ hldB art m ⟨a, z, l, f, t, q⟩ = false) ∨ ((a.toList == art.toList) = true ∧ m < f ∧ hldB art m ⟨a, z, l, f, t, q⟩ = false) ∨ ((a.toList == art.toList) = true ∧ f ≤ m ∧ t ≤ m ∧ hldB art m ⟨a, z, l, f, t, q⟩ = false) ∨ ((a.toList == art.toList) = true ∧ f ≤ m ∧ m < t ∧ hldB art m ⟨a, z, l, f, t, q⟩ = true) := by
  have e : hldB art m ⟨a, z, l, f, t, q⟩ = ((a.toList == art.toList) && decide (f ≤ m) && decide (m < t)) := rfl
  rw [e]
  generalize (a.toList == art.toList) = x
  cases x
  · exact .inl ⟨rfl, rfl⟩
  · rcases (by omega : m < f ∨ (f ≤ m ∧ t ≤ m) ∨ (f ≤ m ∧ m < t)) with h | ⟨h, h'⟩ | ⟨h, h'⟩
    · exact .inr (.inl ⟨rfl, h, by rw [decide_eq_false (show ¬ f ≤ m by omega)]; rfl⟩)
    · exact .inr (.inr (.inl ⟨rfl, h, h', by rw [decide_eq_true h, decide_eq_false (show ¬ m < t by omega)]; rfl⟩))
    · exact .inr (.inr (.inr ⟨rfl, h, h', by rw [decide_eq_true h, decide_eq_true h']; rfl⟩))

/-- v is a row of rows of its own, from block B on. -/
def LP (w : World) (B : Nat) (v : Value) (ls : List RPr) (wr : World) : Prop :=
  wr.ownsRow B 36 6 v ls.length (prcCells ls) ∧ B ≤ wr.heap.size ∧ Below B w wr
theorem LP.alloc {w : World} {B : Nat} {v : Value} {ls : List RPr} {wr : World} (h : LP w B v ls wr) (o : Obj) : LP w B v ls (wr.alloc o) :=
  ⟨h.1.alloc _, by have := h.2.1; simp; omega, h.2.2.alloc h.2.1 _⟩
theorem LP.push {w : World} {B : Nat} {v : Value} {ls : List RPr} {wr w' : World} {g cp : Nat} {r : RPr} (h : LP w B v ls wr)
    (ho : w'.ownsRow B 36 6 (.slice (some ⟨g, 0, none⟩) (ls.length + 1) cp) (ls.length + 1) (prcCells ls ++ prcRow r)) (hg : wr.grownBy w' v.ownBlock) : LP w B (.slice (some ⟨g, 0, none⟩) (ls.length + 1) cp) (ls ++ [r]) w' := by
  obtain ⟨h1, h4, h5⟩ := h
  refine ⟨?_, Nat.le_trans h4 hg.size, h5.grown hg h4 (fun q hq => (h1.lt q hq).1)⟩
  rw [List.length_append, prcCells_append]
  have : prcCells [r] = prcRow r := by simp [prcCells]
  rw [this]; exact ho
theorem LP.start (w : World) : LP w w.heap.size (.slice (some ⟨w.heap.size, 0, none⟩) 0 0) [] (w.alloc (Obj.cells #[] 36)) :=
  ⟨⟨rfl, .inr ⟨w.heap.size, 0, #[], rfl, Nat.le_refl _, heapNew w _, Nat.le_refl _, by unfold maxLen; omega, rfl, rfl⟩⟩, by simp, below_alloc w _⟩
theorem take_nextP (rs : List RPr) (k : Nat) (h : k < rs.length) : rs.take (k + 1) = rs.take k ++ [rs.getD k zPr] := by
  have e : rs.getD k zPr = rs[k] := by simp [List.getD_eq_getElem?_getD, h]
  rw [List.take_succ_eq_append_getElem h, e]
theorem held_next (rs : List RPr) (art : ByteArray) (m : Int) (k : Nat) (h : k < rs.length) : (hldB art m (rs.getD k zPr) = false → (rs.take (k + 1)).filter (hldB art m) = (rs.take k).filter (hldB art m)) ∧ (hldB art m (rs.getD k zPr) = true → (rs.take (k + 1)).filter (hldB art m) = (rs.take k).filter (hldB art m) ++ [rs.getD k zPr]) := by
  rw [take_nextP rs k h, List.filter_append]
  exact ⟨fun q => by rw [List.filter_cons_of_neg (by rw [q]; simp)]; simp, fun q => by rw [List.filter_cons_of_pos q]; rfl⟩
end Go.Proofs.Ytgfgecpgfcipnaa
