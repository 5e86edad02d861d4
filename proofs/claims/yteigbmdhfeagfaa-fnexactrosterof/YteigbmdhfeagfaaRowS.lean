/-
  A row of texts of its own that grows by append; nothing of the program is in it.
-/
import Derived.Test.YteigbmdhfeagfaaStrA
import Derived.Deep.AppendLies
import Derived.Laws.OwnMore
namespace Go.Proofs.Yteigbmdhfeagfaa
open Go.ChangeShapes Go.WideShapes Go.ChangeAt Go.RowKit
set_option linter.unusedVariables false

/-- v is a row of its own, from block B on, whose texts are L. -/
def OneS (w : World) (B : Nat) (v : Value) (L : List ByteArray) (wr : World) : Prop :=
  wr.ownsRow B 9 1 v L.length (L.map Value.string) ∧ B ≤ wr.heap.size ∧ Below B w wr
theorem OneS.made (w : World) (B : Nat) (hB : w.heap.size = B) (n : Nat) (hn : n ≤ 100000000) : OneS w B (.slice (some ⟨B, 0, none⟩) 0 n) [] (w.alloc (Obj.cells (madeCells #[.string ⟨#[]⟩] n) 9)) := by
  subst hB
  refine ⟨⟨rfl, .inr ⟨w.heap.size, n, madeCells #[.string ⟨#[]⟩] n, rfl, Nat.le_refl _, heapNew w _, Nat.zero_le _, by unfold maxLen; omega, by rw [size_madeCells, Nat.mul_one], by simp⟩⟩, by simp, below_alloc w _⟩
theorem OneS.alloc {w : World} {B : Nat} {v : Value} {L : List ByteArray} {wr : World} (h : OneS w B v L wr) (o : Obj) : OneS w B v L (wr.alloc o) :=
  ⟨h.1.alloc _, by have := h.2.1; simp; omega, h.2.2.alloc h.2.1 _⟩
theorem OneS.push {w : World} {B : Nat} {v : Value} {L : List ByteArray} {wr w' : World} {g cp : Nat} {x : ByteArray} (h : OneS w B v L wr)
    (ho : w'.ownsRow B 9 1 (.slice (some ⟨g, 0, none⟩) (L.length + 1) cp) (L.length + 1) (L.map Value.string ++ [.string x])) (hg : wr.grownBy w' v.ownBlock) : OneS w B (.slice (some ⟨g, 0, none⟩) (L.length + 1) cp) (L ++ [x]) w' := by
  obtain ⟨h1, h4, h5⟩ := h
  refine ⟨?_, Nat.le_trans h4 hg.size, h5.grown hg h4 (fun q hq => (h1.lt q hq).1)⟩
  rw [List.length_append, List.map_append]; exact ho
theorem OneS.reads {w : World} {B : Nat} {a : Option Addr} {n cp : Nat} {L : List ByteArray} {wr : World} (h : OneS w B (.slice a n cp) L wr) (hn : n = L.length) : ReadsS wr.heap.size wr a L := by
  subst hn
  by_cases h0 : L.length = 0
  · exact .inl (List.eq_nil_of_length_eq_zero h0)
  · obtain ⟨g, cap, he, hB, hlt⟩ := h.1.form (by omega)
    simp at he
    obtain ⟨rfl, rfl⟩ := he
    refine .inr ⟨g, 0, rfl, hlt, fun i hi => ?_⟩
    rw [Nat.zero_add, h.1.cellAt i (by omega)]; simp [List.getD_eq_getElem?_getD, hi]
theorem OneS.cap {w : World} {B g n cp : Nat} {L : List ByteArray} {wr : World} (h : OneS w B (.slice (some ⟨g, 0, none⟩) n cp) L wr) : n ≤ cp := by
  obtain ⟨_, h2⟩ := h.1
  rcases h2 with h2 | ⟨g', cap, cur, e, _, _, hle, _⟩
  · simp at h2
  · simp at e; omega
theorem newsOneS (w : World) (v : Value) (t : TypeId) : ∀ j u, [v][j]? = some u → (w.alloc (Obj.cells #[v] t)).cell? ((⟨w.heap.size, 0, none⟩ : Addr).add j) = some u := by
  intro j u hj
  match j, hj with
  | 0, hj => simp at hj; subst hj; simp [Addr.add]
end Go.Proofs.Yteigbmdhfeagfaa
