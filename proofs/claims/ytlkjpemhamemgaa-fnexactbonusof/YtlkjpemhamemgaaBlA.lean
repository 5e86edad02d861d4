/-
  Lists of bools in memory.
-/
import Derived.Test.YtlkjpemhamemgaaLists0
import Derived.Deep.Slices
namespace Go.Proofs.Ytlkjpemhamemgaa
open Go.ChangeShapes Go.WideShapes Go.ChangeAt Go.RowKit Go.Joins Go.Deep
set_option linter.unusedVariables false

/-- The bools xs lie in block b from off on. -/
def BoolsAt (w : World) (b off : Nat) (xs : List Bool) : Prop := ∀ i, i < xs.length → w.cell? ⟨b, off + i, none⟩ = some (.bool (xs.getD i false))
def ReadsBl (B : Nat) (w : World) (a : Option Addr) (xs : List Bool) : Prop := xs = [] ∨ ∃ b off, a = some ⟨b, off, none⟩ ∧ b < B ∧ BoolsAt w b off xs
theorem BoolsAt.below {B : Nat} {w w' : World} {b off : Nat} {xs : List Bool} (h : BoolsAt w b off xs) (hb : Below B w w') (hB : b < B) : BoolsAt w' b off xs := fun i hi => (hb.cell (p := ⟨b, off + i, none⟩) hB).trans (h i hi)
theorem ReadsBl.below {B : Nat} {w w' : World} {a : Option Addr} {xs : List Bool} (h : ReadsBl B w a xs) (hb : Below B w w') : ReadsBl B w' a xs := by
  rcases h with h | ⟨b, off, ha, hB, hi⟩
  · exact .inl h
  · exact .inr ⟨b, off, ha, hB, hi.below hb hB⟩
theorem ReadsBl.mono {B B' : Nat} {w : World} {a : Option Addr} {xs : List Bool} (h : ReadsBl B w a xs) (hb : B ≤ B') : ReadsBl B' w a xs := by
  rcases h with h | ⟨b, off, ha, hB, hi⟩
  · exact .inl h
  · exact .inr ⟨b, off, ha, by omega, hi⟩
theorem ReadsBl.later {w W : World} {a : Option Addr} {L : List Bool} (h : ReadsBl w.heap.size w a L) (hb : Below w.heap.size w W) : ReadsBl W.heap.size W a L := (h.below hb).mono hb.size
theorem readsL {w W : World} {a : Option Addr} {L : List Int} (h : Reads w.heap.size w a L) (hb : Below w.heap.size w W) : Reads W.heap.size W a L := (h.below hb).mono hb.size
end Go.Proofs.Ytlkjpemhamemgaa
