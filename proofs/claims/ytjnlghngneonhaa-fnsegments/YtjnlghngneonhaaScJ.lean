/-
  A scope in which the run jumps between several labels; the measure stands in no slot. Nothing of the program is in it.
-/
import Derived.Test.YtjnlghngneonhaaBase
import Derived.ScopeJumps
namespace Go.Proofs.Ytjnlghngneonhaa
open Go.ChangeShapes Go.WideShapes Go.ChangeAt Go.RowKit Go.Deep
set_option linter.unusedVariables false

/-- As Q; by a goto to a label: J of it. -/
def jumps (J : Nat → Act → World → Prop) (Q : Exit → Act → World → Prop) : Exit → Act → World → Prop
  | .goto l, a, w => J l a w
  | e, a, w => Q e a w
theorem wp_scope_all {P : Program} {Q : Exit → Act → World → Prop} {a : Act} {w : World} {c : Code} (J : Nat → Nat → Act → World → Prop)
    (first : c.wp P (jumps (fun l a w => ∃ n, J l n a w) Q) a w)
    (pass : ∀ l n a w, J l n a w → ∃ rest, findLabel c l = some rest ∧ rest.wp P (jumps (fun l' a' w' => ∃ n', n' < n ∧ J l' n' a' w') Q) a w) : (Code.scope c).wp P Q a w := fun b k cs => by
  have key : ∀ m l n a w, n < m → J l n a w → ∃ rest, findLabel c l = some rest ∧ ∃ e a' w', Q e a' w' ∧ Arrives P (lone (b.at a (.code rest :: .inScope c :: k)) cs w) b k cs e a' w' := by
    intro m
    induction m with
    | zero => intro l n a w h; omega
    | succ m ih =>
      intro l n a w hn hJ
      obtain ⟨rest, hf, hr⟩ := pass l n a w hJ
      refine ⟨rest, hf, ?_⟩
      obtain ⟨e, a₁, w₁, hq, har⟩ := hr b (.inScope c :: k) cs
      cases e with
      | normal => exact ⟨.normal, a₁, w₁, hq, Steps.trans har (.one step_inScope)⟩
      | exit id => exact ⟨.exit id, a₁, w₁, hq, fun k' hk => har k' (by simp [exitTo, hk])⟩
      | goto l' =>
        obtain ⟨n', hn', hJ'⟩ : ∃ n', n' < n ∧ J l' n' a₁ w₁ := hq
        obtain ⟨rest', hf', e₂, a₂, w₂, hq₂, har₂⟩ := ih l' n' a₁ w₁ (by omega) hJ'
        exact ⟨e₂, a₂, w₂, hq₂, .of_steps (har _ (by simp [gotoIn, hf'])) har₂⟩
      | ret => exact ⟨_, a₁, w₁, hq, har⟩
      | panic ch => exact ⟨_, a₁, w₁, hq, har⟩
      | outgrown => exact ⟨_, a₁, w₁, hq, har⟩
  obtain ⟨e, a₁, w₁, hq, har⟩ := first b (.inScope c :: k) cs
  cases e with
  | normal => exact ⟨.normal, a₁, w₁, hq, .head step_scope (Steps.trans har (.one step_inScope))⟩
  | exit id => exact ⟨.exit id, a₁, w₁, hq, fun k' hk => .head step_scope (har k' (by simp [exitTo, hk]))⟩
  | goto l' =>
    obtain ⟨n, hJ⟩ : ∃ n, J l' n a₁ w₁ := hq
    obtain ⟨rest, hf, e₂, a₂, w₂, hq₂, har₂⟩ := key (n + 1) l' n a₁ w₁ (by omega) hJ
    exact ⟨e₂, a₂, w₂, hq₂, .of_steps (.head step_scope (har _ (by simp [gotoIn, hf]))) har₂⟩
  | ret => exact ⟨_, a₁, w₁, hq, .of_steps (.one step_scope) har⟩
  | panic ch => exact ⟨_, a₁, w₁, hq, .of_steps (.one step_scope) har⟩
  | outgrown => exact ⟨_, a₁, w₁, hq, .of_steps (.one step_scope) har⟩
end Go.Proofs.Ytjnlghngneonhaa
