/-
  Small lemmas on answers that own their memory, for the laws on packs.
-/
import Derived.Test.YtaledfdhiimhdajPackD
import Derived.Test.YtaledfdhiimhdajPackF
import Derived.Test.YtaledfdhiimhdajPackG
import Derived.Test.YtaledfdhiimhdajOwn2
namespace Go.Proofs.Ytaledfdhiimhdaj
open Go.ChangeShapes Go.WideShapes Go.ChangeAt Go.RowKit Go.Joins
set_option linter.unusedVariables false

theorem own2_ne {B : Nat} {w : World} {g : Option Addr} {L : List Int} (h : Own2 B w g L) : ∀ c, g = some ⟨c, 0, none⟩ → c ≠ w.heap.size ∨ L = [] := fun c hc => by
  rcases h with h | ⟨b, hg, _, hlt, _⟩
  · exact .inr h
  · rw [hg] at hc; cases hc; exact .inl (by omega)
theorem own2_lt {B D : Nat} {w : World} {g : Option Addr} {L : List Int} (h : Own2 B w g L) (hD : w.heap.size ≤ D) : ∀ c, g = some ⟨c, 0, none⟩ → c < D ∨ L = [] := fun c hc => by
  rcases h with h | ⟨b, hg, _, hlt, _⟩
  · exact .inr h
  · rw [hg] at hc; cases hc; exact .inl (by omega)
theorem own2_low {B D : Nat} {w w' : World} {g : Option Addr} {L : List Int} (h : Own2 B w g L) (hb : Below D w w') (hlt : ∀ c, g = some ⟨c, 0, none⟩ → c < D ∨ L = []) : Own2 B w' g L := by
  rcases h with h | ⟨b, hg, hB, hl, hi, hf⟩
  · exact .inl h
  · rcases hlt b hg with h | h
    · exact .inr ⟨b, hg, hB, Nat.lt_of_lt_of_le hl hb.size, hi.below hb h, hf.below hb h⟩
    · exact .inl h
theorem own2_ge {B D : Nat} {w : World} {g : Option Addr} {L : List Int} (h : Own2 B w g L) (hD : D < B) : ∀ c, g = some ⟨c, 0, none⟩ → c ≠ D ∨ L = [] := fun c hc => by
  rcases h with h | ⟨b, hg, hB, hlt, _⟩
  · exact .inr h
  · rw [hg] at hc; cases hc; exact .inl (by omega)
theorem FreeP.below {B : Nat} {w w' : World} {b n : Nat} (h : FreeP w b n) (hb : Below B w w') (hB : b < B) : FreeP w' b n := fun j hj => (hb.frozen (p := ⟨b, j, none⟩) hB).trans (h j hj)
theorem PackPost.elim {ps : List Pk} {B : Nat} {w w' : World} {e : Ending} (h : PackPost ps B w e w') : ∃ g cp, e = .returned (.tuple #[.slice g (pkAll ps).1.length cp, .int .i64 (pkAll ps).2.1, .string (pkAll ps).2.2]) ∧ Own2 B w' g (pkAll ps).1 ∧ Below B w w' := h
theorem pkGo_len (ps : List Pk) : ∀ (r k : Nat) (L : List Int), (pkGo ps r k L).1.length ≤ L.length + r
  | 0, k, L => Nat.le_refl _
  | r + 1, k, L => by
    unfold pkGo
    split
    · have := pkGo_len ps r (k + 1) (L ++ [(pkRes (ps.take k) L (ps.getD k pk0)).1])
      rw [List.length_append] at this
      simp at this ⊢
      omega
    · simp
theorem pkAll_len (ps : List Pk) : (pkAll ps).1.length ≤ 30 := by
  unfold pkAll
  split
  · simp
  · split
    · simp
    · have := pkGo_len ps ps.length 0 []
      simp at this
      omega
end Go.Proofs.Ytaledfdhiimhdaj
