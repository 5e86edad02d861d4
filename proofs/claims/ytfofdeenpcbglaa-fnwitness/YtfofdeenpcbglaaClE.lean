/-
  The laws' own toClauseS: a list of Clause copied, with all its lists of Term, into blocks of their own.
-/
import Derived.Test.YtfofdeenpcbglaaClA
namespace Go.Proofs.Ytfofdeenpcbglaa
open Go.ChangeShapes Go.WideShapes Go.ChangeAt Go.RowKit Go.Deep
set_option linter.unusedVariables false

/-- A list in blocks of its own, none below lo. -/
def OwnCl (lo : Nat) (w : World) (b : Nat) (cs : List CCl) : Prop := lo ≤ b ∧ b < w.heap.size ∧ (∀ j, j < cs.length * 4 → w.frozen? ⟨b, j, none⟩ = false) ∧
  ∀ i, i < cs.length → ∃ g, (g ≠ b ∧ lo ≤ g ∧ g < w.heap.size) ∧ ClAt w b (i * 4) (some ⟨g, 0, none⟩) (cs.getD i zCl).ts.length (cs.getD i zCl) ∧ TmsAt w g 0 (cs.getD i zCl).ts ∧ FreeTm w g (cs.getD i zCl).ts.length
theorem OwnCl.below {lo : Nat} {w w' : World} {b : Nat} {cs : List CCl} (h : OwnCl lo w b cs) {D : Nat} (hb : Below D w w') (hD : w.heap.size ≤ D) : OwnCl lo w' b cs := by
  obtain ⟨h1, h2, h3, h4⟩ := h
  refine ⟨h1, Nat.lt_of_lt_of_le h2 hb.size, fun j hj => (hb.frozen (p := ⟨b, j, none⟩) (Nat.lt_of_lt_of_le h2 hD)).trans (h3 j hj), fun i hi => ?_⟩
  obtain ⟨g, ⟨k1, k2, k3⟩, k4, k5, k6⟩ := h4 i hi
  exact ⟨g, ⟨k1, k2, Nat.lt_of_lt_of_le k3 hb.size⟩, k4.below hb (Nat.lt_of_lt_of_le h2 hD), k5.below hb (Nat.lt_of_lt_of_le k3 hD), k6.below hb (Nat.lt_of_lt_of_le k3 hD)⟩
theorem OwnCl.reads {lo : Nat} {w : World} {b : Nat} {cs : List CCl} (h : OwnCl lo w b cs) : ReadsCl w.heap.size w (some ⟨b, 0, none⟩) cs := by
  obtain ⟨h1, h2, h3, h4⟩ := h
  refine .inr ⟨b, 0, rfl, h2, fun i hi => ?_⟩
  obtain ⟨g, ⟨k1, k2, k3⟩, k4, k5, k6⟩ := h4 i hi
  rw [Nat.zero_add]
  exact ⟨_, _, k4, Nat.le_refl _, .inr ⟨g, 0, rfl, k3, k5⟩⟩

theorem cellOld (w : World) (o : Obj) {b j : Nat} (h : b < w.heap.size) : (w.alloc o).cell? ⟨b, j, none⟩ = w.cell? ⟨b, j, none⟩ := (below_alloc w o).cell (p := ⟨b, j, none⟩) h
theorem cellNew (w : World) (vs : Array Value) (t : TypeId) {b j : Nat} (v : Value) (hb : b = w.heap.size) (hj : vs[j]? = some v) : (w.alloc (.cells vs t)).cell? ⟨b, j, none⟩ = some v := by
  subst hb; unfold World.cell?; rw [heapNew]; simpa using hj
theorem frozenNew (w : World) (vs : Array Value) (t : TypeId) {b j : Nat} (hb : b = w.heap.size) : (w.alloc (.cells vs t)).frozen? ⟨b, j, none⟩ = false := by
  subst hb; unfold World.frozen?; rw [heapNew]; simp

theorem TmsAt.set {w : World} {g off : Nat} {ss : List RTm} (h : TmsAt w g off ss) {c : Nat} (hne : c ≠ g) (o : Nat) (v : Value) : TmsAt (w.setCell ⟨c, o, none⟩ v) g off ss := fun i hi => by
  have := h i hi
  have far : ∀ o', (w.setCell ⟨c, o, none⟩ v).cell? ⟨g, o', none⟩ = w.cell? ⟨g, o', none⟩ := fun o' => World.cell?_setCell_far _ _ _ _ hne
  unfold TmAt at *
  simp only [far]; exact this
theorem FreeTm.set {w : World} {g n : Nat} (h : FreeTm w g n) (p : Addr) (v : Value) : FreeTm (w.setCell p v) g n := fun j hj => by rw [World.frozen?_setCell]; exact h j hj



end Go.Proofs.Ytfofdeenpcbglaa
