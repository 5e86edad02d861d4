/-
  A row of numbers of its own that grows by append; nothing of the program is in it.
-/
import Derived.Test.YtjnlghngneonhaaLists0
import Derived.Deep.AppendLies
import Derived.Laws.OwnMore
namespace Go.Proofs.Ytjnlghngneonhaa
open Go.ChangeShapes Go.WideShapes Go.ChangeAt Go.RowKit
set_option linter.unusedVariables false

theorem newsOne (w : World) (v : Value) (t : TypeId) : ∀ j u, [v][j]? = some u → (w.alloc (Obj.cells #[v] t)).cell? ((⟨w.heap.size, 0, none⟩ : Addr).add j) = some u := by
  intro j u hj
  match j, hj with
  | 0, hj => simp at hj; subst hj; simp [Addr.add]
/-- v is a row of its own, from block B on, whose numbers are L. -/
def One (w : World) (B : Nat) (v : Value) (L : List Int) (wr : World) : Prop :=
  wr.ownsRow B 3 1 v L.length (L.map (Value.int .i64)) ∧ B ≤ wr.heap.size ∧ Below B w wr
theorem One.start (w : World) (B : Nat) (hB : w.heap.size = B) : One w B (.slice (some ⟨B, 0, none⟩) 0 0) [] (w.alloc (Obj.cells #[] 3)) := by
  subst hB
  refine ⟨⟨rfl, .inr ⟨w.heap.size, 0, #[], rfl, Nat.le_refl _, heapNew w _, Nat.le_refl _, by unfold maxLen; omega, rfl, rfl⟩⟩, by simp, below_alloc w _⟩
theorem One.made (w : World) (B : Nat) (hB : w.heap.size = B) (n : Nat) (hn : n ≤ 100000000) : One w B (.slice (some ⟨B, 0, none⟩) 0 n) [] (w.alloc (Obj.cells (madeCells #[.int .i64 0] n) 3)) := by
  subst hB
  refine ⟨⟨rfl, .inr ⟨w.heap.size, n, madeCells #[.int .i64 0] n, rfl, Nat.le_refl _, heapNew w _, Nat.zero_le _, by unfold maxLen; omega, by rw [size_madeCells, Nat.mul_one], by simp⟩⟩, by simp, below_alloc w _⟩
theorem One.alloc {w : World} {B : Nat} {v : Value} {L : List Int} {wr : World} (h : One w B v L wr) (o : Obj) : One w B v L (wr.alloc o) :=
  ⟨h.1.alloc _, by have := h.2.1; simp; omega, h.2.2.alloc h.2.1 _⟩
theorem One.later {w : World} {B : Nat} {v : Value} {L : List Int} {wr w' : World} (h : One w B v L wr) (hb : Below wr.heap.size wr w') : One w B v L w' := by
  obtain ⟨⟨h1, h2⟩, h3, h4⟩ := h
  refine ⟨⟨h1, ?_⟩, Nat.le_trans h3 hb.size, h4.trans (hb.mono h3)⟩
  rcases h2 with h2 | ⟨g, cap, cur, e, hB, hg, r⟩
  · exact .inl h2
  · refine .inr ⟨g, cap, cur, e, hB, ?_, r⟩
    obtain ⟨hlt, _⟩ := Array.getElem?_eq_some_iff.1 hg
    exact (hb.block g hlt).trans hg
theorem One.push {w : World} {B : Nat} {v : Value} {L : List Int} {wr w' : World} {g cp : Nat} {x : Int} (h : One w B v L wr)
    (ho : w'.ownsRow B 3 1 (.slice (some ⟨g, 0, none⟩) (L.length + 1) cp) (L.length + 1) (L.map (Value.int .i64) ++ [.int .i64 x])) (hg : wr.grownBy w' v.ownBlock) : One w B (.slice (some ⟨g, 0, none⟩) (L.length + 1) cp) (L ++ [x]) w' := by
  obtain ⟨h1, h4, h5⟩ := h
  refine ⟨?_, Nat.le_trans h4 hg.size, h5.grown hg h4 (fun q hq => (h1.lt q hq).1)⟩
  rw [List.length_append, List.map_append]; exact ho
theorem One.own2 {w : World} {B : Nat} {a : Option Addr} {n cp : Nat} {L : List Int} {wr : World} (h : One w B (.slice a n cp) L wr) (hn : n = L.length) : Own2 B wr a L := by
  subst hn
  by_cases h0 : L.length = 0
  · exact .inl (List.eq_nil_of_length_eq_zero h0)
  · obtain ⟨g, cap, he, hB, hlt⟩ := h.1.form (by omega)
    simp at he
    obtain ⟨rfl, rfl⟩ := he
    refine .inr ⟨g, rfl, hB, hlt, fun i hi => ?_, fun i hi => ?_⟩
    · rw [Nat.zero_add, h.1.cellAt i (by omega)]; simp [List.getD_eq_getElem?_getD, hi]
    · rw [Nat.zero_add]; exact h.1.frozenAt i
theorem intInfo1 : (Try.prog.info? 3).map (fun i => (i.zero, i.size, i.bytes)) = some (some (.int .i64 0), 1, 8) := by kernel_rfl
end Go.Proofs.Ytjnlghngneonhaa
