/-
  Contract of the specification's Share where it answers no code.
-/
import Derived.Test.YtaledfdhiimhdahShareD
import Derived.Deep.AppendLies
import Derived.Laws.OwnMore
namespace Go.Proofs.Ytaledfdhiimhdah
open Go.ChangeShapes Go.WideShapes Go.ChangeAt Go.RowKit
set_option linter.unusedVariables false

theorem news_one (w : World) (v : Value) (t : TypeId) : ∀ j u, [v][j]? = some u → (w.alloc (Obj.cells #[v] t)).cell? ((⟨w.heap.size, 0, none⟩ : Addr).add j) = some u := by
  intro j u hj
  match j, hj with
  | 0, hj => simp at hj; subst hj; simp [Addr.add]
/-- Two rows of their own that grow: k numbers of P in the one, j of R in the other. -/
def Two (w : World) (B : Nat) (v u : Value) (k j : Nat) (P R : List Int) (wr : World) : Prop :=
  wr.ownsRow B 3 1 v k ((P.take k).map (Value.int .i64)) ∧ wr.ownsRow B 3 1 u j ((R.take j).map (Value.int .i64)) ∧ v.ownBlock ≠ u.ownBlock ∧ B ≤ wr.heap.size ∧ Below B w wr
theorem Two.start (w : World) (B : Nat) (hB : w.heap.size = B) (P R : List Int) : Two w B (.slice (some ⟨B, 0, none⟩) 0 0) (.slice (some ⟨B + 1, 0, none⟩) 0 0) 0 0 P R ((w.alloc (Obj.cells #[] 3)).alloc (Obj.cells #[] 3)) := by
  subst hB
  refine ⟨⟨rfl, .inr ⟨w.heap.size, 0, #[], rfl, Nat.le_refl _, heap_alloc2_old w _ _, Nat.le_refl _, by unfold maxLen; omega, rfl, rfl⟩⟩, ⟨rfl, .inr ⟨w.heap.size + 1, 0, #[], rfl, Nat.le_succ _, heap_alloc2_new w _ _, Nat.le_refl _, by unfold maxLen; omega, rfl, rfl⟩⟩, by simp [Value.ownBlock], by simp; omega, chain (below_alloc w _) (below_alloc _ _)⟩
theorem Two.alloc {w : World} {B : Nat} {v u : Value} {k j : Nat} {P R : List Int} {wr : World} (h : Two w B v u k j P R wr) (o : Obj) : Two w B v u k j P R (wr.alloc o) := by
  obtain ⟨h1, h2, h3, h4, h5⟩ := h
  exact ⟨h1.alloc _, h2.alloc _, h3, by simp; omega, h5.alloc h4 _⟩
theorem Two.swap {w : World} {B : Nat} {v u : Value} {k j : Nat} {P R : List Int} {wr : World} (h : Two w B v u k j P R wr) : Two w B u v j k R P wr := ⟨h.2.1, h.1, h.2.2.1.symm, h.2.2.2.1, h.2.2.2.2⟩
theorem Two.push {w : World} {B : Nat} {v u : Value} {k j : Nat} {P R : List Int} {wr w' : World} {g cp : Nat} (h : Two w B v u k j P R wr) (hk : k < P.length)
    (ho : w'.ownsRow B 3 1 (.slice (some ⟨g, 0, none⟩) (k + 1) cp) (k + 1) ((P.take k).map (Value.int .i64) ++ [.int .i64 (P.getD k 0)])) (hg : wr.grownBy w' v.ownBlock) (hat : v.ownBlock = some g ∨ g = wr.heap.size) : Two w B (.slice (some ⟨g, 0, none⟩) (k + 1) cp) u (k + 1) j P R w' := by
  obtain ⟨h1, h2, h3, h4, h5⟩ := h
  refine ⟨?_, h2.kept hg (.inr h3.symm), ?_, Nat.le_trans h4 hg.size, h5.grown hg h4 (fun q hq => (h1.lt q hq).1)⟩
  · rw [List.take_succ_eq_append_getElem hk, List.map_append]
    have e : P.getD k 0 = P[k] := getD_int hk
    rw [← e]; exact ho
  · intro e
    rcases hat with e1 | e1
    · exact h3 (e1.trans e)
    · have := (h2.lt g e.symm).2
      omega

end Go.Proofs.Ytaledfdhiimhdah
