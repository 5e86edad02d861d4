/-
  Which blocks a mark turns; small lemmas on answers that own their memory (the same words as in the texts on packs, for seats that have no packs).
-/
import Derived.Test.YtjnlghngneonhaaLists0
namespace Go.Proofs.Ytjnlghngneonhaa
open Go.ChangeShapes Go.WideShapes Go.ChangeAt Go.RowKit
set_option linter.unusedVariables false

/-- All blocks but D are as they were. -/
def Apart (D : Nat) (w w' : World) : Prop := w.heap.size ≤ w'.heap.size ∧ ∀ k, k ≠ D → k < w.heap.size → w'.heap[k]? = w.heap[k]?
theorem own2_apart {B D : Nat} {w w' : World} {g : Option Addr} {L : List Int} (h : Own2 B w g L) (ha : Apart D w w') (hne : ∀ c, g = some ⟨c, 0, none⟩ → c ≠ D ∨ L = []) : Own2 B w' g L := by
  rcases h with h | ⟨b, hg, hB, hl, hi, hf⟩
  · exact .inl h
  · rcases hne b hg with h | h
    · have e := ha.2 b h hl
      exact .inr ⟨b, hg, hB, Nat.lt_of_lt_of_le hl ha.1, fun i hk => (World.cell?_of_block (w := w) (a := ⟨b, 0 + i, none⟩) e).trans (hi i hk), fun i hk => (World.frozen?_of_block (w := w) (a := ⟨b, 0 + i, none⟩) e).trans (hf i hk)⟩
    · exact .inl h
/-- Block b has m cells that may be written; below it, and beside it, nothing has turned. -/
def Mk (b m : Nat) (w wr : World) : Prop := (Below b w wr ∧ Apart b w wr) ∧ b < wr.heap.size ∧ (∀ j, j < m → (wr.cell? ⟨b, j, none⟩).isSome = true) ∧ ∀ j, j < m → wr.frozen? ⟨b, j, none⟩ = false
theorem Mk.later {b m : Nat} {w wr w2 : World} (h : Mk b m w wr) (hb : Below wr.heap.size wr w2) : Mk b m w w2 := by
  obtain ⟨⟨h1, ha⟩, h2, h3, h4⟩ := h
  exact ⟨⟨h1.trans (hb.mono (Nat.le_of_lt h2)), Nat.le_trans ha.1 hb.size, fun k hk hl => (hb.block k (Nat.lt_of_lt_of_le hl ha.1)).trans (ha.2 k hk hl)⟩, Nat.lt_of_lt_of_le h2 hb.size, fun j hj => by rw [hb.cell (p := ⟨b, j, none⟩) h2]; exact h3 j hj, fun j hj => by rw [hb.frozen (p := ⟨b, j, none⟩) h2]; exact h4 j hj⟩
theorem Mk.set {b m : Nat} {w wr : World} (h : Mk b m w wr) (o : Nat) (v : Value) : Mk b m w (wr.setCell ⟨b, o, none⟩ v) := by
  obtain ⟨⟨h1, ha⟩, h2, h3, h4⟩ := h
  refine ⟨⟨h1.setCell (Nat.le_refl _) _, by rw [World.size_setCell]; exact ha.1, fun k hk hl => (Below.heap_setCell _ _ _ _ hk).trans (ha.2 k hk hl)⟩, by rw [World.size_setCell]; exact h2, fun j hj => ?_, fun j hj => by rw [World.frozen?_setCell]; exact h4 j hj⟩
  obtain ⟨u, hu⟩ := Option.isSome_iff_exists.mp (h3 j hj)
  by_cases e : j = o
  · subst e; rw [World.cell?_setCell_same _ _ _ hu]; rfl
  · rw [World.cell?_setCell_other _ _ _ _ (fun h => e (by first | (simp at h; omega) | (simp at h; done) | (cases h; rfl)))]; rw [hu]; rfl
theorem Mk.at {b m : Nat} {w wr : World} (h : Mk b m w wr) (j : Nat) (hj : j < m) : ∃ v, wr.cell? ⟨b, j, none⟩ = some v ∧ wr.frozen? ⟨b, j, none⟩ = false := by
  obtain ⟨u, hu⟩ := Option.isSome_iff_exists.mp (h.2.2.1 j hj)
  exact ⟨u, hu, h.2.2.2 j hj⟩
theorem Mk.start {b n : Nat} {w : World} (hc : b < w.heap.size) (h : ∀ j, j < n → (w.cell? ⟨b, j, none⟩).isSome = true) (hf : ∀ j, j < n → w.frozen? ⟨b, j, none⟩ = false) : Mk b n w w :=
  ⟨⟨Below.refl _ _, Nat.le_refl _, fun _ _ _ => rfl⟩, hc, h, hf⟩
theorem own2_ne {B : Nat} {w : World} {g : Option Addr} {L : List Int} (h : Own2 B w g L) : ∀ c, g = some ⟨c, 0, none⟩ → c ≠ w.heap.size ∨ L = [] := fun c hc => by
  rcases h with h | ⟨b, hg, _, hlt, _⟩
  · exact .inr h
  · rw [hg] at hc; cases hc; exact .inl (by omega)
theorem own2_lt {B D : Nat} {w : World} {g : Option Addr} {L : List Int} (h : Own2 B w g L) (hD : w.heap.size ≤ D) : ∀ c, g = some ⟨c, 0, none⟩ → c < D ∨ L = [] := fun c hc => by
  rcases h with h | ⟨b, hg, _, hlt, _⟩
  · exact .inr h
  · rw [hg] at hc; cases hc; exact .inl (by omega)
theorem own2_low {B D : Nat} {w w' : World} {g : Option Addr} {L : List Int} (h : Own2 B w g L) (hb : Below D w w') (hlt : ∀ c, g = some ⟨c, 0, none⟩ → c < D ∨ L = []) : Own2 B w' g L := by
  rcases h with h | ⟨b, hg, hB, hl, hi, hf⟩
  · exact .inl h
  · rcases hlt b hg with h | h
    · exact .inr ⟨b, hg, hB, Nat.lt_of_lt_of_le hl hb.size, hi.below hb h, hf.below hb h⟩
    · exact .inl h
theorem own2_ge {B D : Nat} {w : World} {g : Option Addr} {L : List Int} (h : Own2 B w g L) (hD : D < B) : ∀ c, g = some ⟨c, 0, none⟩ → c ≠ D ∨ L = [] := fun c hc => by
  rcases h with h | ⟨b, hg, hB, hlt, _⟩
  · exact .inr h
  · rw [hg] at hc; cases hc; exact .inl (by omega)
end Go.Proofs.Ytjnlghngneonhaa
