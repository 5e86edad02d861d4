/-
  Contracts of Exchange (the specification's and the program's): for every amount, pair of rates and mode both answer the same two numbers.
-/
import Derived.Test.YteajjaenmbigeaaDoorTold
namespace Go.Proofs.YteajjaenmbigeaaDoor
open Go.ChangeShapes Go.WideShapes Go.ChangeAt Go.RowKit
set_option linter.unusedVariables false

def xnum (a n d' : Int) : Int := a * n * d'
def xden (d n' : Int) : Int := d * n'
def xval (a n d n' d' m : Int) : Int := rq (xnum a n d' / xden d n') (xnum a n d' % xden d n') (xden d n') m
/-- What Exchange answers: the amount, the code. -/
def xv1 (a n d n' d' m : Int) : Int := if (amtB a && rateB n d && rateB n' d' && modeB m && !(n' == 0)) = true then told1 (xval a n d n' d' m) else 0
def xv2 (a n d n' d' m : Int) : Int := if (amtB a && rateB n d && rateB n' d') = true then (if modeB m = true then (if (n' == 0) = true then 10 else told2 (xval a n d n' d' m)) else 13) else 1

theorem xbounds (a n d n' d' : Int) (hA : amtB a = true) (hR : rateB n d = true) (hR' : rateB n' d' = true) (h0 : (n' == 0) = false) :
    (-10000000000000 ≤ a * n ∧ a * n ≤ 10000000000000) ∧ (-100000000000000000 ≤ a * n * d' ∧ a * n * d' ≤ 100000000000000000) ∧ 1 ≤ d * n' ∧ d * n' ≤ 100000000 := by
  obtain ⟨a1, a2⟩ := (amtB_iff a).mp hA
  obtain ⟨⟨n1, n2⟩, d1, d2⟩ := (rateB_iff n d).mp hR
  obtain ⟨⟨n3, n4⟩, d3, d4⟩ := (rateB_iff n' d').mp hR'
  have h0' : n' ≠ 0 := by simpa using h0
  have b := mul_bound a n 1000000000 10000 a1 a2 n1 n2 (by omega)
  have c := mul_bound (a * n) d' 10000000000000 10000 (by omega) (by omega) (by omega) d4 (by omega)
  have e := mul_bound d n' 10000 10000 (by omega) d2 n3 n4 (by omega)
  have f : 1 * 1 ≤ d * n' := Int.mul_le_mul d1 (by omega) (by omega) (by omega)
  omega



theorem implX_ok1 (a n d n' d' : Int) (w : World) (hA : amtB a = true) (hR : rateB n d = true) (hR' : rateB n' d' = true) (h0 : (n' == 0) = false) :
    Calls Tryd.prog 7 #[.int .i64 a, .agg #[.int .i64 n, .int .i64 d], .agg #[.int .i64 n', .int .i64 d'], .int .i64 1] w fun e w' => e = .returned (.tuple #[.int .i64 (told1 (xval a n d n' d' 1)), .int .i64 (told2 (xval a n d n' d' 1))]) ∧ Below w.heap.size w w' := by
  obtain ⟨⟨b1, b2⟩, ⟨b3, b4⟩, b5, b6⟩ := xbounds a n d n' d' hA hR hR' h0
  have hdv := fun w => divide_any (a * n * d') (d * n') w (by omega) (by omega) b5 b6
  have hem := Int.emod_nonneg (a * n * d') (b := d * n') (by omega)
  have hem' := Int.emod_lt_of_pos (a * n * d') (b := d * n') (by omega)
  obtain ⟨e1, e2⟩ := ediv_bound (a * n * d') (d * n') b5 1000000000000000000 (by omega) (by omega)
  have hrn : ∀ w, Calls Tryd.prog 17 #[.agg #[.int .i64 (a * n * d' / (d * n')), .int .i64 (a * n * d' % (d * n')), .int .i64 (d * n')], .agg #[.func (.func 33) #[] #[]]] w fun e w' => e = .returned (.int .i64 (xval a n d n' d' 1)) ∧ Below w.heap.size w w' := fun w =>
    rounded_fn1 (upB (a * n * d' / (d * n')) (a * n * d' % (d * n')) (d * n') 1) _ _ _ w e1 e2 (fun w => by first | exact mode1_any _ _ _ w | exact mode1_any _ _ _ w hem hem' (by omega))
  have hix : ∀ w, (Instr.index 48 (.agg #[.nilFunc, .func (.func 33) #[] #[], .func (.func 34) #[] #[], .func (.func 35) #[] #[], .func (.func 37) #[] #[]]) (.int .i64 1)).run Tryd.prog w = .ok (.agg #[.func (.func 33) #[] #[]]) w := fun _ => by kernel_rfl
  have hM : modeB 1 = true := by decide
  have l1 : ∀ n : Nat, n < n + 1 + 1 := fun n => by omega
  have l2 : ∀ n : Nat, n < n + 2 := fun n => by omega
  go_enter Tryd.func7, Tryd.ntmps7
  go_wp2_with (first | (go_at_call 12; refine (implMoney_any _ _).mono ?_; rintro e w' ⟨rfl, rfl⟩) | (go_at_call 13; refine (implRate_any _ _ _).mono ?_; rintro e w1 ⟨rfl, hb1⟩; obtain ⟨hc1, hf1, hz1⟩ := bfacts hb1) | (go_at_call 14; refine (implMode_any _ _).mono ?_; rintro e w' ⟨rfl, rfl⟩) | (go_at_call 16; refine (hdv _).mono ?_; rintro e w2 ⟨rfl, hb2⟩; obtain ⟨hc2, hf2, hz2⟩ := bfacts hb2) | (go_at_call 18; refine (roundings_any _).mono ?_; rintro e w3 ⟨rfl, hb3⟩; obtain ⟨hc3, hf3, hz3⟩ := bfacts hb3) | (go_at_call 17; refine (hrn _).mono ?_; rintro e w4 ⟨rfl, hb4⟩; obtain ⟨hc4, hf4, hz4⟩ := bfacts hb4) | (go_at_call 15; refine (implTold_any _ _).mono ?_; rintro e w' ⟨rfl, rfl⟩))
  go_ret2
  exact ⟨rfl, by repeat (first | exact Below.refl _ _ | refine chain ?_ (by assumption) | refine chain ?_ (below_alloc _ _) | refine chain ?_ (below_drew _))⟩

theorem implX_ok2 (a n d n' d' : Int) (w : World) (hA : amtB a = true) (hR : rateB n d = true) (hR' : rateB n' d' = true) (h0 : (n' == 0) = false) :
    Calls Tryd.prog 7 #[.int .i64 a, .agg #[.int .i64 n, .int .i64 d], .agg #[.int .i64 n', .int .i64 d'], .int .i64 2] w fun e w' => e = .returned (.tuple #[.int .i64 (told1 (xval a n d n' d' 2)), .int .i64 (told2 (xval a n d n' d' 2))]) ∧ Below w.heap.size w w' := by
  obtain ⟨⟨b1, b2⟩, ⟨b3, b4⟩, b5, b6⟩ := xbounds a n d n' d' hA hR hR' h0
  have hdv := fun w => divide_any (a * n * d') (d * n') w (by omega) (by omega) b5 b6
  have hem := Int.emod_nonneg (a * n * d') (b := d * n') (by omega)
  have hem' := Int.emod_lt_of_pos (a * n * d') (b := d * n') (by omega)
  obtain ⟨e1, e2⟩ := ediv_bound (a * n * d') (d * n') b5 1000000000000000000 (by omega) (by omega)
  have hrn : ∀ w, Calls Tryd.prog 17 #[.agg #[.int .i64 (a * n * d' / (d * n')), .int .i64 (a * n * d' % (d * n')), .int .i64 (d * n')], .agg #[.func (.func 34) #[] #[]]] w fun e w' => e = .returned (.int .i64 (xval a n d n' d' 2)) ∧ Below w.heap.size w w' := fun w =>
    rounded_fn2 (upB (a * n * d' / (d * n')) (a * n * d' % (d * n')) (d * n') 2) _ _ _ w e1 e2 (fun w => by first | exact mode2_any _ _ _ w | exact mode2_any _ _ _ w hem hem' (by omega))
  have hix : ∀ w, (Instr.index 48 (.agg #[.nilFunc, .func (.func 33) #[] #[], .func (.func 34) #[] #[], .func (.func 35) #[] #[], .func (.func 37) #[] #[]]) (.int .i64 2)).run Tryd.prog w = .ok (.agg #[.func (.func 34) #[] #[]]) w := fun _ => by kernel_rfl
  have hM : modeB 2 = true := by decide
  have l1 : ∀ n : Nat, n < n + 1 + 1 := fun n => by omega
  have l2 : ∀ n : Nat, n < n + 2 := fun n => by omega
  go_enter Tryd.func7, Tryd.ntmps7
  go_wp2_with (first | (go_at_call 12; refine (implMoney_any _ _).mono ?_; rintro e w' ⟨rfl, rfl⟩) | (go_at_call 13; refine (implRate_any _ _ _).mono ?_; rintro e w1 ⟨rfl, hb1⟩; obtain ⟨hc1, hf1, hz1⟩ := bfacts hb1) | (go_at_call 14; refine (implMode_any _ _).mono ?_; rintro e w' ⟨rfl, rfl⟩) | (go_at_call 16; refine (hdv _).mono ?_; rintro e w2 ⟨rfl, hb2⟩; obtain ⟨hc2, hf2, hz2⟩ := bfacts hb2) | (go_at_call 18; refine (roundings_any _).mono ?_; rintro e w3 ⟨rfl, hb3⟩; obtain ⟨hc3, hf3, hz3⟩ := bfacts hb3) | (go_at_call 17; refine (hrn _).mono ?_; rintro e w4 ⟨rfl, hb4⟩; obtain ⟨hc4, hf4, hz4⟩ := bfacts hb4) | (go_at_call 15; refine (implTold_any _ _).mono ?_; rintro e w' ⟨rfl, rfl⟩))
  go_ret2
  exact ⟨rfl, by repeat (first | exact Below.refl _ _ | refine chain ?_ (by assumption) | refine chain ?_ (below_alloc _ _) | refine chain ?_ (below_drew _))⟩

theorem implX_ok3 (a n d n' d' : Int) (w : World) (hA : amtB a = true) (hR : rateB n d = true) (hR' : rateB n' d' = true) (h0 : (n' == 0) = false) :
    Calls Tryd.prog 7 #[.int .i64 a, .agg #[.int .i64 n, .int .i64 d], .agg #[.int .i64 n', .int .i64 d'], .int .i64 3] w fun e w' => e = .returned (.tuple #[.int .i64 (told1 (xval a n d n' d' 3)), .int .i64 (told2 (xval a n d n' d' 3))]) ∧ Below w.heap.size w w' := by
  obtain ⟨⟨b1, b2⟩, ⟨b3, b4⟩, b5, b6⟩ := xbounds a n d n' d' hA hR hR' h0
  have hdv := fun w => divide_any (a * n * d') (d * n') w (by omega) (by omega) b5 b6
  have hem := Int.emod_nonneg (a * n * d') (b := d * n') (by omega)
  have hem' := Int.emod_lt_of_pos (a * n * d') (b := d * n') (by omega)
  obtain ⟨e1, e2⟩ := ediv_bound (a * n * d') (d * n') b5 1000000000000000000 (by omega) (by omega)
  have hrn : ∀ w, Calls Tryd.prog 17 #[.agg #[.int .i64 (a * n * d' / (d * n')), .int .i64 (a * n * d' % (d * n')), .int .i64 (d * n')], .agg #[.func (.func 35) #[] #[]]] w fun e w' => e = .returned (.int .i64 (xval a n d n' d' 3)) ∧ Below w.heap.size w w' := fun w =>
    rounded_fn3 (upB (a * n * d' / (d * n')) (a * n * d' % (d * n')) (d * n') 3) _ _ _ w e1 e2 (fun w => by first | exact mode3_any _ _ _ w | exact mode3_any _ _ _ w hem hem' (by omega))
  have hix : ∀ w, (Instr.index 48 (.agg #[.nilFunc, .func (.func 33) #[] #[], .func (.func 34) #[] #[], .func (.func 35) #[] #[], .func (.func 37) #[] #[]]) (.int .i64 3)).run Tryd.prog w = .ok (.agg #[.func (.func 35) #[] #[]]) w := fun _ => by kernel_rfl
  have hM : modeB 3 = true := by decide
  have l1 : ∀ n : Nat, n < n + 1 + 1 := fun n => by omega
  have l2 : ∀ n : Nat, n < n + 2 := fun n => by omega
  go_enter Tryd.func7, Tryd.ntmps7
  go_wp2_with (first | (go_at_call 12; refine (implMoney_any _ _).mono ?_; rintro e w' ⟨rfl, rfl⟩) | (go_at_call 13; refine (implRate_any _ _ _).mono ?_; rintro e w1 ⟨rfl, hb1⟩; obtain ⟨hc1, hf1, hz1⟩ := bfacts hb1) | (go_at_call 14; refine (implMode_any _ _).mono ?_; rintro e w' ⟨rfl, rfl⟩) | (go_at_call 16; refine (hdv _).mono ?_; rintro e w2 ⟨rfl, hb2⟩; obtain ⟨hc2, hf2, hz2⟩ := bfacts hb2) | (go_at_call 18; refine (roundings_any _).mono ?_; rintro e w3 ⟨rfl, hb3⟩; obtain ⟨hc3, hf3, hz3⟩ := bfacts hb3) | (go_at_call 17; refine (hrn _).mono ?_; rintro e w4 ⟨rfl, hb4⟩; obtain ⟨hc4, hf4, hz4⟩ := bfacts hb4) | (go_at_call 15; refine (implTold_any _ _).mono ?_; rintro e w' ⟨rfl, rfl⟩))
  go_ret2
  exact ⟨rfl, by repeat (first | exact Below.refl _ _ | refine chain ?_ (by assumption) | refine chain ?_ (below_alloc _ _) | refine chain ?_ (below_drew _))⟩

theorem implX_ok4 (a n d n' d' : Int) (w : World) (hA : amtB a = true) (hR : rateB n d = true) (hR' : rateB n' d' = true) (h0 : (n' == 0) = false) :
    Calls Tryd.prog 7 #[.int .i64 a, .agg #[.int .i64 n, .int .i64 d], .agg #[.int .i64 n', .int .i64 d'], .int .i64 4] w fun e w' => e = .returned (.tuple #[.int .i64 (told1 (xval a n d n' d' 4)), .int .i64 (told2 (xval a n d n' d' 4))]) ∧ Below w.heap.size w w' := by
  obtain ⟨⟨b1, b2⟩, ⟨b3, b4⟩, b5, b6⟩ := xbounds a n d n' d' hA hR hR' h0
  have hdv := fun w => divide_any (a * n * d') (d * n') w (by omega) (by omega) b5 b6
  have hem := Int.emod_nonneg (a * n * d') (b := d * n') (by omega)
  have hem' := Int.emod_lt_of_pos (a * n * d') (b := d * n') (by omega)
  obtain ⟨e1, e2⟩ := ediv_bound (a * n * d') (d * n') b5 1000000000000000000 (by omega) (by omega)
  have hrn : ∀ w, Calls Tryd.prog 17 #[.agg #[.int .i64 (a * n * d' / (d * n')), .int .i64 (a * n * d' % (d * n')), .int .i64 (d * n')], .agg #[.func (.func 37) #[] #[]]] w fun e w' => e = .returned (.int .i64 (xval a n d n' d' 4)) ∧ Below w.heap.size w w' := fun w =>
    rounded_fn4 (upB (a * n * d' / (d * n')) (a * n * d' % (d * n')) (d * n') 4) _ _ _ w e1 e2 (fun w => by first | exact mode4_any _ _ _ w | exact mode4_any _ _ _ w hem hem' (by omega))
  have hix : ∀ w, (Instr.index 48 (.agg #[.nilFunc, .func (.func 33) #[] #[], .func (.func 34) #[] #[], .func (.func 35) #[] #[], .func (.func 37) #[] #[]]) (.int .i64 4)).run Tryd.prog w = .ok (.agg #[.func (.func 37) #[] #[]]) w := fun _ => by kernel_rfl
  have hM : modeB 4 = true := by decide
  have l1 : ∀ n : Nat, n < n + 1 + 1 := fun n => by omega
  have l2 : ∀ n : Nat, n < n + 2 := fun n => by omega
  go_enter Tryd.func7, Tryd.ntmps7
  go_wp2_with (first | (go_at_call 12; refine (implMoney_any _ _).mono ?_; rintro e w' ⟨rfl, rfl⟩) | (go_at_call 13; refine (implRate_any _ _ _).mono ?_; rintro e w1 ⟨rfl, hb1⟩; obtain ⟨hc1, hf1, hz1⟩ := bfacts hb1) | (go_at_call 14; refine (implMode_any _ _).mono ?_; rintro e w' ⟨rfl, rfl⟩) | (go_at_call 16; refine (hdv _).mono ?_; rintro e w2 ⟨rfl, hb2⟩; obtain ⟨hc2, hf2, hz2⟩ := bfacts hb2) | (go_at_call 18; refine (roundings_any _).mono ?_; rintro e w3 ⟨rfl, hb3⟩; obtain ⟨hc3, hf3, hz3⟩ := bfacts hb3) | (go_at_call 17; refine (hrn _).mono ?_; rintro e w4 ⟨rfl, hb4⟩; obtain ⟨hc4, hf4, hz4⟩ := bfacts hb4) | (go_at_call 15; refine (implTold_any _ _).mono ?_; rintro e w' ⟨rfl, rfl⟩))
  go_ret2
  exact ⟨rfl, by repeat (first | exact Below.refl _ _ | refine chain ?_ (by assumption) | refine chain ?_ (below_alloc _ _) | refine chain ?_ (below_drew _))⟩

theorem implX_any (a n d n' d' m : Int) (w : World) :
    Calls Tryd.prog 7 #[.int .i64 a, .agg #[.int .i64 n, .int .i64 d], .agg #[.int .i64 n', .int .i64 d'], .int .i64 m] w fun e w' => e = .returned (.tuple #[.int .i64 (xv1 a n d n' d' m), .int .i64 (xv2 a n d n' d' m)]) ∧ Below w.heap.size w w' := by
  unfold xv1 xv2
  cases hA : amtB a
  · go_enter Tryd.func7, Tryd.ntmps7
    go_wp2_with (first | (go_at_call 12; refine (implMoney_any _ _).mono ?_; rintro e w' ⟨rfl, rfl⟩))
    go_ret2
    exact ⟨rfl, by repeat (first | exact Below.refl _ _ | refine chain ?_ (by assumption) | refine chain ?_ (below_alloc _ _) | refine chain ?_ (below_drew _))⟩
  · cases hR : rateB n d
    · go_enter Tryd.func7, Tryd.ntmps7
      go_wp2_with (first | (go_at_call 12; refine (implMoney_any _ _).mono ?_; rintro e w' ⟨rfl, rfl⟩) | (go_at_call 13; refine (implRate_any _ _ _).mono ?_; rintro e w1 ⟨rfl, hb1⟩; obtain ⟨hc1, hf1, hz1⟩ := bfacts hb1))
      go_ret2
      exact ⟨rfl, by repeat (first | exact Below.refl _ _ | refine chain ?_ (by assumption) | refine chain ?_ (below_alloc _ _) | refine chain ?_ (below_drew _))⟩
    · cases hR' : rateB n' d'
      · go_enter Tryd.func7, Tryd.ntmps7
        go_wp2_with (first | (go_at_call 12; refine (implMoney_any _ _).mono ?_; rintro e w' ⟨rfl, rfl⟩) | (go_at_call 13; refine (implRate_any _ _ _).mono ?_; rintro e w1 ⟨rfl, hb1⟩; obtain ⟨hc1, hf1, hz1⟩ := bfacts hb1))
        go_ret2
        exact ⟨rfl, by repeat (first | exact Below.refl _ _ | refine chain ?_ (by assumption) | refine chain ?_ (below_alloc _ _) | refine chain ?_ (below_drew _))⟩
      · cases hM : modeB m
        · go_enter Tryd.func7, Tryd.ntmps7
          go_wp2_with (first | (go_at_call 12; refine (implMoney_any _ _).mono ?_; rintro e w' ⟨rfl, rfl⟩) | (go_at_call 13; refine (implRate_any _ _ _).mono ?_; rintro e w1 ⟨rfl, hb1⟩; obtain ⟨hc1, hf1, hz1⟩ := bfacts hb1) | (go_at_call 14; refine (implMode_any _ _).mono ?_; rintro e w' ⟨rfl, rfl⟩))
          go_ret2
          exact ⟨rfl, by repeat (first | exact Below.refl _ _ | refine chain ?_ (by assumption) | refine chain ?_ (below_alloc _ _) | refine chain ?_ (below_drew _))⟩
        · cases h0 : (n' == 0)
          · rcases (modeB_iff m).mp hM with rfl | rfl | rfl | rfl
            · exact implX_ok1 a n d n' d' w hA hR hR' h0
            · exact implX_ok2 a n d n' d' w hA hR hR' h0
            · exact implX_ok3 a n d n' d' w hA hR hR' h0
            · exact implX_ok4 a n d n' d' w hA hR hR' h0
          · go_enter Tryd.func7, Tryd.ntmps7
            go_wp2_with (first | (go_at_call 12; refine (implMoney_any _ _).mono ?_; rintro e w' ⟨rfl, rfl⟩) | (go_at_call 13; refine (implRate_any _ _ _).mono ?_; rintro e w1 ⟨rfl, hb1⟩; obtain ⟨hc1, hf1, hz1⟩ := bfacts hb1) | (go_at_call 14; refine (implMode_any _ _).mono ?_; rintro e w' ⟨rfl, rfl⟩))
            go_ret2
            exact ⟨rfl, by repeat (first | exact Below.refl _ _ | refine chain ?_ (by assumption) | refine chain ?_ (below_alloc _ _) | refine chain ?_ (below_drew _))⟩
end Go.Proofs.YteajjaenmbigeaaDoor
