/-
  Contracts of Part (the specification's and the program's): for every amount, rate and mode both answer the same two numbers.
-/
import Derived.Test.YtlkjpemhamemgaaTold
namespace Go.Proofs.Ytlkjpemhamemgaa
open Go.ChangeShapes Go.WideShapes Go.ChangeAt Go.RowKit
set_option linter.unusedVariables false

/-- What Part answers: the amount, the code. -/
def pv1 (a n d m : Int) : Int := if (amtB a && rateB n d && modeB m) = true then told1 (rq (a * n / d) (a * n % d) d m) else 0
def pv2 (a n d m : Int) : Int := if (amtB a && rateB n d) = true then (if modeB m = true then told2 (rq (a * n / d) (a * n % d) d m) else 13) else 1

theorem implPart_ok1 (a n d : Int) (w : World) (hA : amtB a = true) (hR : rateB n d = true) :
    Calls Try.prog 69 #[.int .i64 a, .agg #[.int .i64 n, .int .i64 d], .int .i64 1] w fun e w' => e = .returned (.tuple #[.int .i64 (told1 (rq (a * n / d) (a * n % d) d 1)), .int .i64 (told2 (rq (a * n / d) (a * n % d) d 1))]) ∧ Below w.heap.size w w' := by
  obtain ⟨a1, a2⟩ := (amtB_iff a).mp hA
  obtain ⟨⟨n1, n2⟩, d1, d2⟩ := (rateB_iff n d).mp hR
  obtain ⟨b1, b2⟩ := mul_bound a n 1000000000 10000 a1 a2 n1 n2 (by omega)
  have hdv := fun w => divide_any (a * n) d w (by omega) (by omega) d1 (by omega)
  have hem := Int.emod_nonneg (a * n) (b := d) (by omega)
  have hem' := Int.emod_lt_of_pos (a * n) (b := d) (by omega)
  obtain ⟨e1, e2⟩ := ediv_bound (a * n) d d1 1000000000000000000 (by omega) (by omega)
  have hrn : ∀ w, Calls Try.prog 114 #[.agg #[.int .i64 (a * n / d), .int .i64 (a * n % d), .int .i64 d], .agg #[.func (.func 131) #[] #[]]] w fun e w' => e = .returned (.int .i64 (rq (a * n / d) (a * n % d) d 1)) ∧ Below w.heap.size w w' := fun w =>
    rounded_fn1 _ _ _ _ w e1 e2 (fun w => by first | exact mode1_any _ _ _ w | exact mode1_any _ _ _ w hem hem' (by omega))
  have hix : ∀ w, (Instr.index 145 (.agg #[.nilFunc, .func (.func 131) #[] #[], .func (.func 132) #[] #[], .func (.func 133) #[] #[], .func (.func 135) #[] #[]]) (.int .i64 1)).run Try.prog w = .ok (.agg #[.func (.func 131) #[] #[]]) w := fun _ => by kernel_rfl
  have hM : modeB 1 = true := by decide
  go_enter Try.func69, Try.ntmps69
  go_wp2_with (first | (go_at_call 109; refine (implMoney_any _ _).mono ?_; rintro e w' ⟨rfl, rfl⟩) | (go_at_call 110; refine (implRate_any _ _ _).mono ?_; rintro e w1 ⟨rfl, hb1⟩; obtain ⟨hc1, hf1, hz1⟩ := bfacts hb1) | (go_at_call 111; refine (implMode_any _ _).mono ?_; rintro e w' ⟨rfl, rfl⟩) | (go_at_call 113; refine (hdv _).mono ?_; rintro e w2 ⟨rfl, hb2⟩; obtain ⟨hc2, hf2, hz2⟩ := bfacts hb2) | (go_at_call 115; refine (roundings_any _).mono ?_; rintro e w3 ⟨rfl, hb3⟩; obtain ⟨hc3, hf3, hz3⟩ := bfacts hb3) | (go_at_call 114; refine (hrn _).mono ?_; rintro e w4 ⟨rfl, hb4⟩; obtain ⟨hc4, hf4, hz4⟩ := bfacts hb4) | (go_at_call 112; refine (implTold_any _ _).mono ?_; rintro e w' ⟨rfl, rfl⟩))
  go_ret2
  exact ⟨rfl, by repeat (first | exact Below.refl _ _ | refine chain ?_ (by assumption) | refine chain ?_ (below_alloc _ _) | refine chain ?_ (below_drew _))⟩

theorem implPart_ok2 (a n d : Int) (w : World) (hA : amtB a = true) (hR : rateB n d = true) :
    Calls Try.prog 69 #[.int .i64 a, .agg #[.int .i64 n, .int .i64 d], .int .i64 2] w fun e w' => e = .returned (.tuple #[.int .i64 (told1 (rq (a * n / d) (a * n % d) d 2)), .int .i64 (told2 (rq (a * n / d) (a * n % d) d 2))]) ∧ Below w.heap.size w w' := by
  obtain ⟨a1, a2⟩ := (amtB_iff a).mp hA
  obtain ⟨⟨n1, n2⟩, d1, d2⟩ := (rateB_iff n d).mp hR
  obtain ⟨b1, b2⟩ := mul_bound a n 1000000000 10000 a1 a2 n1 n2 (by omega)
  have hdv := fun w => divide_any (a * n) d w (by omega) (by omega) d1 (by omega)
  have hem := Int.emod_nonneg (a * n) (b := d) (by omega)
  have hem' := Int.emod_lt_of_pos (a * n) (b := d) (by omega)
  obtain ⟨e1, e2⟩ := ediv_bound (a * n) d d1 1000000000000000000 (by omega) (by omega)
  have hrn : ∀ w, Calls Try.prog 114 #[.agg #[.int .i64 (a * n / d), .int .i64 (a * n % d), .int .i64 d], .agg #[.func (.func 132) #[] #[]]] w fun e w' => e = .returned (.int .i64 (rq (a * n / d) (a * n % d) d 2)) ∧ Below w.heap.size w w' := fun w =>
    rounded_fn2 _ _ _ _ w e1 e2 (fun w => by first | exact mode2_any _ _ _ w | exact mode2_any _ _ _ w hem hem' (by omega))
  have hix : ∀ w, (Instr.index 145 (.agg #[.nilFunc, .func (.func 131) #[] #[], .func (.func 132) #[] #[], .func (.func 133) #[] #[], .func (.func 135) #[] #[]]) (.int .i64 2)).run Try.prog w = .ok (.agg #[.func (.func 132) #[] #[]]) w := fun _ => by kernel_rfl
  have hM : modeB 2 = true := by decide
  go_enter Try.func69, Try.ntmps69
  go_wp2_with (first | (go_at_call 109; refine (implMoney_any _ _).mono ?_; rintro e w' ⟨rfl, rfl⟩) | (go_at_call 110; refine (implRate_any _ _ _).mono ?_; rintro e w1 ⟨rfl, hb1⟩; obtain ⟨hc1, hf1, hz1⟩ := bfacts hb1) | (go_at_call 111; refine (implMode_any _ _).mono ?_; rintro e w' ⟨rfl, rfl⟩) | (go_at_call 113; refine (hdv _).mono ?_; rintro e w2 ⟨rfl, hb2⟩; obtain ⟨hc2, hf2, hz2⟩ := bfacts hb2) | (go_at_call 115; refine (roundings_any _).mono ?_; rintro e w3 ⟨rfl, hb3⟩; obtain ⟨hc3, hf3, hz3⟩ := bfacts hb3) | (go_at_call 114; refine (hrn _).mono ?_; rintro e w4 ⟨rfl, hb4⟩; obtain ⟨hc4, hf4, hz4⟩ := bfacts hb4) | (go_at_call 112; refine (implTold_any _ _).mono ?_; rintro e w' ⟨rfl, rfl⟩))
  go_ret2
  exact ⟨rfl, by repeat (first | exact Below.refl _ _ | refine chain ?_ (by assumption) | refine chain ?_ (below_alloc _ _) | refine chain ?_ (below_drew _))⟩

theorem implPart_ok3 (a n d : Int) (w : World) (hA : amtB a = true) (hR : rateB n d = true) :
    Calls Try.prog 69 #[.int .i64 a, .agg #[.int .i64 n, .int .i64 d], .int .i64 3] w fun e w' => e = .returned (.tuple #[.int .i64 (told1 (rq (a * n / d) (a * n % d) d 3)), .int .i64 (told2 (rq (a * n / d) (a * n % d) d 3))]) ∧ Below w.heap.size w w' := by
  obtain ⟨a1, a2⟩ := (amtB_iff a).mp hA
  obtain ⟨⟨n1, n2⟩, d1, d2⟩ := (rateB_iff n d).mp hR
  obtain ⟨b1, b2⟩ := mul_bound a n 1000000000 10000 a1 a2 n1 n2 (by omega)
  have hdv := fun w => divide_any (a * n) d w (by omega) (by omega) d1 (by omega)
  have hem := Int.emod_nonneg (a * n) (b := d) (by omega)
  have hem' := Int.emod_lt_of_pos (a * n) (b := d) (by omega)
  obtain ⟨e1, e2⟩ := ediv_bound (a * n) d d1 1000000000000000000 (by omega) (by omega)
  have hrn : ∀ w, Calls Try.prog 114 #[.agg #[.int .i64 (a * n / d), .int .i64 (a * n % d), .int .i64 d], .agg #[.func (.func 133) #[] #[]]] w fun e w' => e = .returned (.int .i64 (rq (a * n / d) (a * n % d) d 3)) ∧ Below w.heap.size w w' := fun w =>
    rounded_fn3 _ _ _ _ w e1 e2 (fun w => by first | exact mode3_any _ _ _ w | exact mode3_any _ _ _ w hem hem' (by omega))
  have hix : ∀ w, (Instr.index 145 (.agg #[.nilFunc, .func (.func 131) #[] #[], .func (.func 132) #[] #[], .func (.func 133) #[] #[], .func (.func 135) #[] #[]]) (.int .i64 3)).run Try.prog w = .ok (.agg #[.func (.func 133) #[] #[]]) w := fun _ => by kernel_rfl
  have hM : modeB 3 = true := by decide
  go_enter Try.func69, Try.ntmps69
  go_wp2_with (first | (go_at_call 109; refine (implMoney_any _ _).mono ?_; rintro e w' ⟨rfl, rfl⟩) | (go_at_call 110; refine (implRate_any _ _ _).mono ?_; rintro e w1 ⟨rfl, hb1⟩; obtain ⟨hc1, hf1, hz1⟩ := bfacts hb1) | (go_at_call 111; refine (implMode_any _ _).mono ?_; rintro e w' ⟨rfl, rfl⟩) | (go_at_call 113; refine (hdv _).mono ?_; rintro e w2 ⟨rfl, hb2⟩; obtain ⟨hc2, hf2, hz2⟩ := bfacts hb2) | (go_at_call 115; refine (roundings_any _).mono ?_; rintro e w3 ⟨rfl, hb3⟩; obtain ⟨hc3, hf3, hz3⟩ := bfacts hb3) | (go_at_call 114; refine (hrn _).mono ?_; rintro e w4 ⟨rfl, hb4⟩; obtain ⟨hc4, hf4, hz4⟩ := bfacts hb4) | (go_at_call 112; refine (implTold_any _ _).mono ?_; rintro e w' ⟨rfl, rfl⟩))
  go_ret2
  exact ⟨rfl, by repeat (first | exact Below.refl _ _ | refine chain ?_ (by assumption) | refine chain ?_ (below_alloc _ _) | refine chain ?_ (below_drew _))⟩

theorem implPart_ok4 (a n d : Int) (w : World) (hA : amtB a = true) (hR : rateB n d = true) :
    Calls Try.prog 69 #[.int .i64 a, .agg #[.int .i64 n, .int .i64 d], .int .i64 4] w fun e w' => e = .returned (.tuple #[.int .i64 (told1 (rq (a * n / d) (a * n % d) d 4)), .int .i64 (told2 (rq (a * n / d) (a * n % d) d 4))]) ∧ Below w.heap.size w w' := by
  obtain ⟨a1, a2⟩ := (amtB_iff a).mp hA
  obtain ⟨⟨n1, n2⟩, d1, d2⟩ := (rateB_iff n d).mp hR
  obtain ⟨b1, b2⟩ := mul_bound a n 1000000000 10000 a1 a2 n1 n2 (by omega)
  have hdv := fun w => divide_any (a * n) d w (by omega) (by omega) d1 (by omega)
  have hem := Int.emod_nonneg (a * n) (b := d) (by omega)
  have hem' := Int.emod_lt_of_pos (a * n) (b := d) (by omega)
  obtain ⟨e1, e2⟩ := ediv_bound (a * n) d d1 1000000000000000000 (by omega) (by omega)
  have hrn : ∀ w, Calls Try.prog 114 #[.agg #[.int .i64 (a * n / d), .int .i64 (a * n % d), .int .i64 d], .agg #[.func (.func 135) #[] #[]]] w fun e w' => e = .returned (.int .i64 (rq (a * n / d) (a * n % d) d 4)) ∧ Below w.heap.size w w' := fun w =>
    rounded_fn4 _ _ _ _ w e1 e2 (fun w => by first | exact mode4_any _ _ _ w | exact mode4_any _ _ _ w hem hem' (by omega))
  have hix : ∀ w, (Instr.index 145 (.agg #[.nilFunc, .func (.func 131) #[] #[], .func (.func 132) #[] #[], .func (.func 133) #[] #[], .func (.func 135) #[] #[]]) (.int .i64 4)).run Try.prog w = .ok (.agg #[.func (.func 135) #[] #[]]) w := fun _ => by kernel_rfl
  have hM : modeB 4 = true := by decide
  go_enter Try.func69, Try.ntmps69
  go_wp2_with (first | (go_at_call 109; refine (implMoney_any _ _).mono ?_; rintro e w' ⟨rfl, rfl⟩) | (go_at_call 110; refine (implRate_any _ _ _).mono ?_; rintro e w1 ⟨rfl, hb1⟩; obtain ⟨hc1, hf1, hz1⟩ := bfacts hb1) | (go_at_call 111; refine (implMode_any _ _).mono ?_; rintro e w' ⟨rfl, rfl⟩) | (go_at_call 113; refine (hdv _).mono ?_; rintro e w2 ⟨rfl, hb2⟩; obtain ⟨hc2, hf2, hz2⟩ := bfacts hb2) | (go_at_call 115; refine (roundings_any _).mono ?_; rintro e w3 ⟨rfl, hb3⟩; obtain ⟨hc3, hf3, hz3⟩ := bfacts hb3) | (go_at_call 114; refine (hrn _).mono ?_; rintro e w4 ⟨rfl, hb4⟩; obtain ⟨hc4, hf4, hz4⟩ := bfacts hb4) | (go_at_call 112; refine (implTold_any _ _).mono ?_; rintro e w' ⟨rfl, rfl⟩))
  go_ret2
  exact ⟨rfl, by repeat (first | exact Below.refl _ _ | refine chain ?_ (by assumption) | refine chain ?_ (below_alloc _ _) | refine chain ?_ (below_drew _))⟩

theorem implPart_any (a n d m : Int) (w : World) :
    Calls Try.prog 69 #[.int .i64 a, .agg #[.int .i64 n, .int .i64 d], .int .i64 m] w fun e w' => e = .returned (.tuple #[.int .i64 (pv1 a n d m), .int .i64 (pv2 a n d m)]) ∧ Below w.heap.size w w' := by
  unfold pv1 pv2
  cases hA : amtB a
  · go_enter Try.func69, Try.ntmps69
    go_wp2_with (first | (go_at_call 109; refine (implMoney_any _ _).mono ?_; rintro e w' ⟨rfl, rfl⟩))
    go_ret2
    exact ⟨rfl, by repeat (first | exact Below.refl _ _ | refine chain ?_ (by assumption) | refine chain ?_ (below_alloc _ _) | refine chain ?_ (below_drew _))⟩
  · cases hR : rateB n d
    · go_enter Try.func69, Try.ntmps69
      go_wp2_with (first | (go_at_call 109; refine (implMoney_any _ _).mono ?_; rintro e w' ⟨rfl, rfl⟩) | (go_at_call 110; refine (implRate_any _ _ _).mono ?_; rintro e w1 ⟨rfl, hb1⟩; obtain ⟨hc1, hf1, hz1⟩ := bfacts hb1))
      go_ret2
      exact ⟨rfl, by repeat (first | exact Below.refl _ _ | refine chain ?_ (by assumption) | refine chain ?_ (below_alloc _ _) | refine chain ?_ (below_drew _))⟩
    · cases hM : modeB m
      · go_enter Try.func69, Try.ntmps69
        go_wp2_with (first | (go_at_call 109; refine (implMoney_any _ _).mono ?_; rintro e w' ⟨rfl, rfl⟩) | (go_at_call 110; refine (implRate_any _ _ _).mono ?_; rintro e w1 ⟨rfl, hb1⟩; obtain ⟨hc1, hf1, hz1⟩ := bfacts hb1) | (go_at_call 111; refine (implMode_any _ _).mono ?_; rintro e w' ⟨rfl, rfl⟩))
        go_ret2
        exact ⟨rfl, by repeat (first | exact Below.refl _ _ | refine chain ?_ (by assumption) | refine chain ?_ (below_alloc _ _) | refine chain ?_ (below_drew _))⟩
      · rcases (modeB_iff m).mp hM with rfl | rfl | rfl | rfl
        · exact implPart_ok1 a n d w hA hR
        · exact implPart_ok2 a n d w hA hR
        · exact implPart_ok3 a n d w hA hR
        · exact implPart_ok4 a n d w hA hR
end Go.Proofs.Ytlkjpemhamemgaa
