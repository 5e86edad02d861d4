/-
  Maps that the call makes, by numbers, whatever their elements; nothing of the program is in it but the type of numbers.
-/
import Derived.Test.YtodncihjenlnjaaRowG
import Derived.Maps.OwnOps
import Derived.Maps.OwnSet
import Derived.Maps.Views
namespace Go.Proofs.Ytodncihjenlnjaa
open Go.ChangeShapes Go.WideShapes Go.ChangeAt Go.RowKit Go.Deep
set_option linter.unusedVariables false

def WfI (c : Int) : Prop := (Lit.int .i64 c).wf = true
theorem wfI_of (c : Int) (h : -9223372036854775808 ≤ c) (h' : c ≤ 9223372036854775807) : WfI c := by
  unfold WfI Lit.wf
  rw [Bool.and_eq_true, decide_eq_true_eq, decide_eq_true_eq]
  exact ⟨h, h'⟩
theorem intK : Maps.Keyed Try.prog 3 := Maps.int_keyed Try.underlying3
/-- An element as it is. -/
def heldV (v : Value) : Option (DataW Value × List MemPlace) := some (.held v, [])
/-- Block b is a map: f what it has at each number; z the element's nought. -/
def MapV (z : Value) (w : World) (b n : Nat) (f : Int → Option Value) : Prop :=
  ∃ D : DataW Value, w.ownsMap Try.prog 3 heldV b n D ∧ Maps.IsMap D ∧ (∀ c, WfI c → D.atKey (.int .i64 c) (.held z) = .held ((f c).getD z)) ∧ ∀ c, WfI c → Maps.has D (.int .i64 c) = (f c).isSome
theorem MapV.made (z : Value) (w : World) : MapV z (w.alloc (.map #[] 0)) w.heap.size 0 (fun _ => none) :=
  ⟨.map [], World.ownsMap_made w _ _ _, Maps.isMap_empty, fun c _ => rfl, fun c _ => rfl⟩
theorem MapV.block {z : Value} {w w' : World} {b n : Nat} {f : Int → Option Value} (h : MapV z w b n f) (e : w'.heap[b]? = w.heap[b]?) : MapV z w' b n f := by
  obtain ⟨D, ⟨es, clock, hb, F, hs, hD⟩, h2, h3, h4⟩ := h
  exact ⟨D, ⟨es, clock, e.trans hb, F, hs, hD⟩, h2, h3, h4⟩
theorem MapV.lt {z : Value} {w : World} {b n : Nat} {f : Int → Option Value} (h : MapV z w b n f) : b < w.heap.size := by obtain ⟨D, h1, _⟩ := h; exact h1.lt
theorem MapV.is {z : Value} {w : World} {b n : Nat} {f : Int → Option Value} (h : MapV z w b n f) : ∃ es clock, w.heap[b]? = some (.map es clock) := by
  obtain ⟨D, ⟨es, clock, hb, _⟩, _⟩ := h
  exact ⟨es, clock, hb⟩
theorem MapV.congr {z : Value} {w : World} {b n : Nat} {f g : Int → Option Value} (h : MapV z w b n f) (e : ∀ c, f c = g c) : MapV z w b n g := by
  have : f = g := funext e
  rw [← this]; exact h
theorem MapV.look {z : Value} {w : World} {b n : Nat} {f : Int → Option Value} {t e : TypeId} (h : MapV z w b n f) (ht : Try.prog.underlying t = some (.map 3 e)) (hz : (zeroValue e).run Try.prog w = .ok z w) {c : Int} (hc : WfI c) :
    (Instr.lookup t (.map (some b)) (.int .i64 c) true).run Try.prog w = .ok (.tuple #[(f c).getD z, .bool (f c).isSome]) w := by
  obtain ⟨D, h1, h2, h3, h4⟩ := h
  obtain ⟨v, ps, hrun, hR⟩ := h1.look_ok intK ht hz (show heldV z = some (.held z, []) from rfl) (Maps.keyOf_int_mk Try.underlying3 hc)
  rw [h3 c hc] at hR
  have : v = (f c).getD z := by unfold heldV at hR; simp at hR; exact hR.1
  rw [hrun, this, h4 c hc]
theorem MapV.put {z : Value} {w : World} {b n : Nat} {f : Int → Option Value} {t e : TypeId} (h : MapV z w b n f) (ht : Try.prog.underlying t = some (.map 3 e)) (hn : n < maxLen) {c : Int} (hc : WfI c) (v : Value) :
    ∃ w', (Instr.mapUpdate t (.map (some b)) (.int .i64 c) v).run Try.prog w = .ok () w' ∧ MapV z w' b (n + 1) (fun c' => if c' = c then some v else f c') ∧ w.grownBy w' (some b) := by
  obtain ⟨D, h1, h2, h3, h4⟩ := h
  obtain ⟨w', hrun, hown, hg⟩ := h1.store intK ht hn (Maps.keyOf_int_mk Try.underlying3 hc) (show heldV v = some (.held v, []) from rfl)
  have hkl : WideAt.IsKeyLit (.int .i64 c) := intK.key (Maps.keyOf_int_mk Try.underlying3 hc)
  have hne : ∀ c', c' ≠ c → (Lit.int .i64 c') ≠ .int .i64 c := fun c' h e => by simp at e; exact h e
  refine ⟨w', hrun, ⟨_, hown, h2.put _ _, fun c' hc' => ?_, fun c' hc' => ?_⟩, hg.grown⟩
  · dsimp only
    by_cases e : c' = c
    · subst e
      rw [if_pos rfl]
      exact Maps.atKey_put_same h2 hkl _ _
    · rw [if_neg e, Maps.atKey_put_other (hne c' e)]
      exact h3 c' hc'
  · dsimp only
    by_cases e : c' = c
    · subst e
      rw [Maps.has_put_same h2 hkl]; simp
    · rw [Maps.has_put_other (hne c' e), h4 c' hc', if_neg e]
theorem MapV.del {z : Value} {w : World} {b n : Nat} {f : Int → Option Value} {t e : TypeId} (h : MapV z w b n f) (ht : Try.prog.underlying t = some (.map 3 e)) {c : Int} (hc : WfI c) (ty : TypeId) :
    ∃ w', (Builtin.delete_ #[t, 3] ty #[.map (some b), .int .i64 c]).run Try.prog w = .ok (.tuple #[]) w' ∧ MapV z w' b n (fun c' => if c' = c then none else f c') ∧ w.grownBy w' (some b) := by
  obtain ⟨D, h1, h2, h3, h4⟩ := h
  obtain ⟨w', hrun, hown, hg⟩ := h1.drop intK ht (Maps.keyOf_int_mk Try.underlying3 hc) ty
  have hne : ∀ c', c' ≠ c → (Lit.int .i64 c') ≠ .int .i64 c := fun c' h e => by simp at e; exact h e
  refine ⟨w', hrun, ⟨_, hown, hown.isMap, fun c' hc' => ?_, fun c' hc' => ?_⟩, hg.grown⟩
  · dsimp only
    by_cases e : c' = c
    · subst e
      rw [if_pos rfl]
      exact Maps.atKey_del_same _
    · rw [if_neg e, Maps.atKey_del_other (hne c' e)]
      exact h3 c' hc'
  · dsimp only
    by_cases e : c' = c
    · subst e
      rw [Maps.has_del_same]; simp
    · rw [Maps.has_del_other (hne c' e), h4 c' hc', if_neg e]
end Go.Proofs.Ytodncihjenlnjaa
