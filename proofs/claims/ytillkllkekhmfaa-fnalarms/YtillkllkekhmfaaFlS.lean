/-
  The laws' own sameFloat at one number twice; a number that came in, opened.
-/
import Derived.Test.YtillkllkekhmfaaFlA
namespace Go.Proofs.Ytillkllkekhmfaa
open Go.ChangeShapes Go.WideShapes Go.ChangeAt Go.RowKit Go.Joins Go.Deep
set_option linter.unusedVariables false

/-- 1.0. -/
def oneF : Nat := 4607182418800017408
theorem one_read : ∃ m i, (FloatKind.format .f64).read oneF = .number false m i ∧ m ≠ 0 := by
  have h : (match (FloatKind.format .f64).read oneF with | .number false m _ => m != 0 | _ => false) = true := by decide +kernel
  split at h
  · rename_i m i e
    exact ⟨m, i, e, by simpa using h⟩
  · cases h
theorem zero_key : kF 0 = some 0 := by decide +kernel
/-- One by a nought is told. -/
theorem one_by {x : Nat} (h : eqF x 0 = true) : ∃ r, floatBits .quo .f64 oneF x = some r := by
  unfold eqF at h
  rw [zero_key] at h
  cases hk : kF x with
  | none => rw [hk] at h; cases h
  | some a =>
    rw [hk] at h
    have ha : a = 0 := of_decide_eq_true h
    obtain ⟨m1, i1, h1, hm⟩ := one_read
    unfold kF keyW at hk
    show ∃ r, Option.map _ (Ieee.Datum.quotient _ ((FloatKind.format .f64).read oneF) ((FloatKind.format .f64).read x)) = some r
    rw [h1]
    cases hx : (FloatKind.format .f64).read x with
    | nan s t => rw [hx] at hk; cases hk
    | infinity s => exact ⟨_, rfl⟩
    | number s m i =>
      rw [hx] at hk
      simp only [keyD, Option.some.injEq] at hk
      have h2 := congrArg Int.natAbs hk
      rw [signed_abs, ha] at h2
      have h3 : m = 0 := by
        rcases Nat.mul_eq_zero.1 h2 with h | h
        · exact h
        · exact absurd h (Nat.pos_iff_ne_zero.1 (Nat.two_pow_pos _))
      unfold Ieee.Datum.quotient
      simp only [h3, hm, if_true, if_false]
      exact ⟨_, rfl⟩
theorem sameF_any (x : Nat) (w : World) : Calls Try.prog 28 #[.float .f64 x, .float .f64 x] w fun e w' => e = .returned (.bool true) ∧ Below w.heap.size w w' := by
  have h1 := o_ms x
  have h2 := o_eq x 0
  have h3 := o_th x
  cases hm : msF x
  · rw [hm] at h1 h3
    cases hz : eqF x 0
    · rw [hz] at h2
      clear hm hz
      go_enter Try.func28, Try.ntmps28
      go_wp2
      go_ret
      exact ⟨rfl, Below.refl _ _⟩
    · obtain ⟨r, hr⟩ := one_by hz
      have hrun := fun t W => run_float_arith (P := Try.prog) W .quo t .f64 4607182418800017408 x r hr
      rw [hz] at h2
      clear hm hz hr
      have h5 := o_gt r 0
      generalize ltF 0 r = b at *
      go_enter Try.func28, Try.ntmps28
      go_wp2
      go_ret
      exact ⟨ret_bool (by simp), Below.refl _ _⟩
  · rw [hm] at h1
    clear hm h2 h3
    go_enter Try.func28, Try.ntmps28
    go_wp2
    go_ret
    exact ⟨rfl, Below.refl _ _⟩
theorem trod_float {H : Type} {enc : TypeId × Value → H} {w : World} {base : Nat} {spare : Nat → Bool} {held : Bool} {n : Nat} {v : Value} {x : DataW H × List MemPlace} (h : DataW.trod enc Try.prog w base spare held n 24 [v] = some x) : ∃ r, v = .float .f64 r := by
  cases n with
  | zero => simp [DataW.trod] at h
  | succ n =>
    simp only [DataW.trod, Value.cells, Try.underlying24] at h
    cases v <;> simp at h
    rename_i k b
    exact ⟨b, by rw [h.1.1]⟩
end Go.Proofs.Ytillkllkekhmfaa
