/-
  Cells of blocks that were there and of new ones.
-/
import Derived.Test.YthmhpgbkapjjkaaLists0
namespace Go.Proofs.Ythmhpgbkapjjkaa
open Go.ChangeShapes Go.WideShapes Go.ChangeAt Go.RowKit Go.Deep
set_option linter.unusedVariables false

theorem cellOld (w : World) (o : Obj) {b j : Nat} (h : b < w.heap.size) : (w.alloc o).cell? ⟨b, j, none⟩ = w.cell? ⟨b, j, none⟩ := (below_alloc w o).cell (p := ⟨b, j, none⟩) h
theorem cellNew (w : World) (vs : Array Value) (t : TypeId) {b j : Nat} (v : Value) (hb : b = w.heap.size) (hj : vs[j]? = some v) : (w.alloc (.cells vs t)).cell? ⟨b, j, none⟩ = some v := by
  subst hb; unfold World.cell?; rw [heapNew]; simpa using hj
theorem frozenNew (w : World) (vs : Array Value) (t : TypeId) {b j : Nat} (hb : b = w.heap.size) : (w.alloc (.cells vs t)).frozen? ⟨b, j, none⟩ = false := by
  subst hb; unfold World.frozen?; rw [heapNew]; simp
end Go.Proofs.Ythmhpgbkapjjkaa
