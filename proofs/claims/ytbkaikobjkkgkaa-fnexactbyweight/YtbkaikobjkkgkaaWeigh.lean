/-
  For every amount and weight the law FnExactByWeight answers true: the program's ByWeight answers as the specification's, at every argument, with no condition.
-/
import Derived.Test.YtbkaikobjkkgkaaTold
namespace Go.Proofs.Ytbkaikobjkkgkaa
open Go.ChangeShapes Go.WideShapes Go.ChangeAt Go.RowKit Go.Joins
set_option linter.unusedVariables false

def grB (g : Int) : Bool := inB g 0 99999
theorem grB_iff (g : Int) : grB g = true ↔ 0 ≤ g ∧ g ≤ 99999 := by simp [grB, inB]
/-- What ByWeight answers: the amount, the code. -/
def bwQ (a g : Int) : Int := rq (a * g / 1000) (a * g % 1000) 1000 3
def bw1 (a g : Int) : Int := if (amtB a && grB g) = true then told1 (bwQ a g) else 0
def bw2 (a g : Int) : Int := if amtB a = true then (if grB g = true then told2 (bwQ a g) else 5) else 1

theorem specWeigh_any (a g : Int) (w : World) :
    Calls Try.prog 20 #[.int .i64 a, .int .i64 g] w fun e w' => e = .returned (.tuple #[.int .i64 (bw1 a g), .int .i64 (bw2 a g)]) ∧ w' = w := by
  unfold bw1 bw2
  cases hA : amtB a
  · go_enter Try.func20, Try.ntmps20
    go_wp2_with (first | (go_at_call 39; refine (specMoney_any _ _).mono ?_; rintro e w' ⟨rfl, rfl⟩))
    go_ret2
    exact ⟨rfl, rfl⟩
  · cases hG : grB g
    · have hin : ∀ w, Calls Try.prog 24 #[.int .i64 g, .int .i64 0, .int .i64 99999] w fun e w' => e = .returned (.bool false) ∧ w' = w := fun w => hG ▸ in_any g 0 99999 w
      go_enter Try.func20, Try.ntmps20
      go_wp2_with (first | (go_at_call 39; refine (specMoney_any _ _).mono ?_; rintro e w' ⟨rfl, rfl⟩) | (go_at_call 24; refine (hin _).mono ?_; rintro e w' ⟨rfl, rfl⟩))
      go_ret2
      exact ⟨rfl, rfl⟩
    · have hin : ∀ w, Calls Try.prog 24 #[.int .i64 g, .int .i64 0, .int .i64 99999] w fun e w' => e = .returned (.bool true) ∧ w' = w := fun w => hG ▸ in_any g 0 99999 w
      obtain ⟨a1, a2⟩ := (amtB_iff a).mp hA
      obtain ⟨g1, g2⟩ := (grB_iff g).mp hG
      obtain ⟨b1, b2⟩ := mul_bound a g 1000000000 99999 a1 a2 g1 g2 (by omega)
      have hrd : ∀ w, Calls Try.prog 41 #[.int .i64 (a * g), .int .i64 1000, .int .i64 3] w fun e w' => e = .returned (.int .i64 (bwQ a g)) ∧ w' = w := fun w => round_any (a * g) 1000 3 w (by omega) (by omega) (by omega) (by omega) (.inr (.inr (.inl rfl)))
      go_enter Try.func20, Try.ntmps20
      go_wp2_with (first | (go_at_call 39; refine (specMoney_any _ _).mono ?_; rintro e w' ⟨rfl, rfl⟩) | (go_at_call 24; refine (hin _).mono ?_; rintro e w' ⟨rfl, rfl⟩) | (go_at_call 41; refine (hrd _).mono ?_; rintro e w' ⟨rfl, rfl⟩) | (go_at_call 40; refine (specTold_any _ _).mono ?_; rintro e w' ⟨rfl, rfl⟩))
      go_ret2
      exact ⟨rfl, rfl⟩

theorem implWeigh_any (a g : Int) (w : World) :
    Calls Try.prog 21 #[.int .i64 a, .int .i64 g] w fun e w' => e = .returned (.tuple #[.int .i64 (bw1 a g), .int .i64 (bw2 a g)]) ∧ Below w.heap.size w w' := by
  unfold bw1 bw2
  cases hA : amtB a
  · go_enter Try.func21, Try.ntmps21
    go_wp2_with (first | (go_at_call 42; refine (implMoney_any _ _).mono ?_; rintro e w' ⟨rfl, rfl⟩))
    go_ret2
    exact ⟨rfl, Below.refl _ _⟩
  · rcases in_ways g 0 99999 with h | ⟨h1, h2⟩ | ⟨h1, h2⟩
    · have hG : grB g = false := decide_eq_false (by omega)
      rw [hG]
      go_enter Try.func21, Try.ntmps21
      go_wp2_with (first | (go_at_call 42; refine (implMoney_any _ _).mono ?_; rintro e w' ⟨rfl, rfl⟩))
      go_ret2
      exact ⟨rfl, Below.refl _ _⟩
    · have hG : grB g = false := decide_eq_false (by omega)
      rw [hG]
      go_enter Try.func21, Try.ntmps21
      go_wp2_with (first | (go_at_call 42; refine (implMoney_any _ _).mono ?_; rintro e w' ⟨rfl, rfl⟩))
      go_ret2
      exact ⟨rfl, Below.refl _ _⟩
    · have hG : grB g = true := decide_eq_true (by omega)
      rw [hG]
      obtain ⟨a1, a2⟩ := (amtB_iff a).mp hA
      obtain ⟨b1, b2⟩ := mul_bound a g 1000000000 99999 a1 a2 h1 h2 (by omega)
      have hdv := fun w => divide_any (a * g) 1000 w (by omega) (by omega) (by omega) (by omega)
      have hem := Int.emod_nonneg (a * g) (b := 1000) (by omega)
      have hem' := Int.emod_lt_of_pos (a * g) (b := 1000) (by omega)
      obtain ⟨e1, e2⟩ := ediv_bound (a * g) 1000 (by omega) 1000000000000000000 (by omega) (by omega)
      have hrn : ∀ w, Calls Try.prog 45 #[.agg #[.int .i64 (a * g / 1000), .int .i64 (a * g % 1000), .int .i64 1000], .agg #[.func (.func 58) #[] #[]]] w fun e w' => e = .returned (.int .i64 (bwQ a g)) ∧ Below w.heap.size w w' := fun w =>
        rounded_fn3 _ _ _ _ w e1 e2 (fun w => mode3_any _ _ _ w hem hem' (by omega))
      have hix : ∀ w, (Instr.index 73 (.agg #[.nilFunc, .func (.func 56) #[] #[], .func (.func 57) #[] #[], .func (.func 58) #[] #[], .func (.func 60) #[] #[]]) (.int .i64 3)).run Try.prog w = .ok (.agg #[.func (.func 58) #[] #[]]) w := fun _ => by kernel_rfl
      clear hem hem' e1 e2
      go_enter Try.func21, Try.ntmps21
      go_wp2_with (first | (go_at_call 42; refine (implMoney_any _ _).mono ?_; rintro e w' ⟨rfl, rfl⟩) | (go_at_call 44; refine (hdv _).mono ?_; rintro e w2 ⟨rfl, hb2⟩; obtain ⟨hc2, hf2, hz2⟩ := bfacts hb2) | (go_at_call 46; refine (roundings_any _).mono ?_; rintro e w3 ⟨rfl, hb3⟩; obtain ⟨hc3, hf3, hz3⟩ := bfacts hb3) | (go_at_call 45; refine (hrn _).mono ?_; rintro e w4 ⟨rfl, hb4⟩; obtain ⟨hc4, hf4, hz4⟩ := bfacts hb4) | (go_at_call 43; refine (implTold_any _ _).mono ?_; rintro e w' ⟨rfl, rfl⟩))
      go_ret2
      exact ⟨rfl, by repeat (first | exact Below.refl _ _ | refine chain ?_ (by assumption) | refine chain ?_ (below_alloc _ _) | refine chain ?_ (below_drew _))⟩

namespace WeighLaw
theorem walk (a : Int) (wa : (Lit.int .i64 a).wf = true) (g : Int) (wg : (Lit.int .i64 g).wf = true) (w : World) :
    Calls Try.prog 6 #[.int .i64 a, .int .i64 g] w fun e w' => e = .returned (.bool true) ∧ Below w.heap.size w w' := by
  clear wa wg
  have hs := fun w => specWeigh_any a g w
  have hi := fun w => implWeigh_any a g w
  generalize bw1 a g = x at *
  generalize bw2 a g = y at *
  go_enter Try.func6, Try.ntmps6
  go_wp2_with (first | (go_at_call 20; refine (hs _).mono ?_; rintro e w1 ⟨rfl, rfl⟩) | (go_at_call 21; refine (hi _).mono ?_; rintro e w2 ⟨rfl, hb2⟩; obtain ⟨hc2, hf2, hz2⟩ := bfacts hb2))
  go_ret
  exact ⟨rfl, by repeat (first | exact Below.refl _ _ | refine chain ?_ (by assumption) | refine chain ?_ (below_alloc _ _) | refine chain ?_ (below_drew _))⟩

theorem own : ownKnob Try.prog.godebug = none := by kernel_rfl
theorem laidOut : laidOutB Try.prog = true := by kernel_rfl

set_option maxRecDepth 100000 in
theorem lifted (os : Os) (started : os.Started) (H : Type) (enc : TypeId × Value → H) :
    ReturnsInHanded {} Try.checked os 6 .any (Rows.fnExactByWeightSpec.pre6 enc Try.prog Try.f6 Rows.fnExactByWeightRow.domain false) (Rows.fnExactByWeightSpec.post enc Try.prog Try.f6 false true false false) := by
  refine returnsInHanded_of_change (C := Try.checked) own started (by kernel_rfl) Try.func6
    (ChangeSpec.witness6 (enc := enc) (C := Try.checked) false ⟨#[], #[.int .i64 0, .int .i64 0], []⟩ 8 (by kernel_rfl) (by kernel_rfl) (by kernel_rfl) (by kernel_rfl)) ?_
  intro W base args ds gs before hval0 hW hcnd _
  have hval : ∀ (j : Nat) t v, Try.f6.params[j]? = some t → args[j]? = some v → Value.okWide Try.prog W .any base t v := hval0
  have hW' := hW
  obtain ⟨p, q, hA0, hV, rfl, hfz, hnd⟩ := hW
  have hA : DataW.TrodAll enc Try.prog W 0 (fun _ => true) true Try.f6.params.toList args.toList ds p := hA0
  rw [Try.params6] at hA hval
  obtain ⟨v0, vs0, d0, ds0, p0, q0, hargs, rfl, rfl, h0, r0⟩ := trodAll_cons hA
  obtain ⟨v1, vs1, d1, ds1, p1, q1, rfl, rfl, rfl, h1, r1⟩ := trodAll_cons r0
  obtain ⟨rfl, rfl, rfl⟩ := trodAll_nil r1
  obtain rfl : args = #[v0, v1] := by cases args; simp_all
  obtain ⟨rfl, rfl⟩ := trodVars_none hV
  have k0 := h0
  have lt0 : ∀ x ∈ p0, x.block < W.heap.size := by obtain ⟨m, hm⟩ := k0; exact DataW.trod_lt m _ _ _ hm
  have k1 := h1
  have lt1 : ∀ x ∈ p1, x.block < W.heap.size := by obtain ⟨m, hm⟩ := k1; exact DataW.trod_lt m _ _ _ hm
  obtain ⟨a0, rfl, rfl, rfl, w0⟩ := open_int Try.underlying3 (hval 0 3 v0 rfl rfl) h0
  obtain ⟨a1, rfl, rfl, rfl, w1⟩ := open_int Try.underlying3 (hval 1 3 v1 rfl rfl) h1
  clear hA0 hval0
  refine (walk a0 w0 a1 w1 W ).mono fun e W' ⟨he, bel⟩ => ?_
  subst he
  exact ⟨_, rfl, _, _, _, [], _, [], hW', trodAll_mk1 (shut_bool Try.underlying4 _), (trodAll_cons_mk (Below.trod laidOut (by kernel_rfl) (of_decide_eq_true (by kernel_rfl)) k0 bel lt0) (trodAll_cons_mk (Below.trod laidOut (by kernel_rfl) (of_decide_eq_true (by kernel_rfl)) k1 bel lt1) trodAll_mk0)), rfl, bel.frame _, fun h => by cases h⟩

theorem over : Rows.fnExactByWeightRow.holds Try.pinned (OpenSpec.ofChange Rows.fnExactByWeightSpec) :=
  OpenClaim.holds_of_wide 6 Try.f6 rfl rfl rfl rfl rfl rfl rfl ⟨rfl, rfl, rfl, rfl, rfl⟩ rfl rfl rfl rfl rfl (by kernel_rfl) Try.func6 (by kernel_rfl)
    (of_decide_eq_true (by kernel_rfl)) (by unfold Func.isWrapper; first | (rw [if_pos (by decide +kernel)]; kernel_rfl) | (rw [if_neg (by decide +kernel)]; exact ⟨rfl, rfl⟩))
    (fun os started H enc _ => lifted os started H enc)
end WeighLaw

theorem fnExactByWeight_holds : Rows.FnExactByWeightSaid := WeighLaw.over
end Go.Proofs.Ytbkaikobjkkgkaa
