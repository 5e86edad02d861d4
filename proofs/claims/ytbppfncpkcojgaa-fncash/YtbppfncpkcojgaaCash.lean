/-
  Contracts of Cash (the specification's and the program's): for every amount and step both answer the same two numbers.
-/
import Derived.Test.YtbppfncpkcojgaaTold
import Derived.Deep.RegionHeld3
namespace Go.Proofs.Ytbppfncpkcojgaa
open Go.ChangeShapes Go.WideShapes Go.ChangeAt Go.RowKit
set_option linter.unusedVariables false

def cup (q r s : Int) : Bool := decide (s < 2 * r) || (decide (2 * r = s) && decide (q < 0))
def cq (a s : Int) : Int := if cup (a / s) (a % s) s = true then a / s + 1 else a / s
def cv (a s : Int) : Int := s * cq a s
def stepB (s : Int) : Bool := inB s 1 1000
/-- What Cash answers: the amount, the code. -/
def cv1 (a s : Int) : Int := if (amtB a && stepB s) = true then told1 (cv a s) else 0
def cv2 (a s : Int) : Int := if amtB a = true then (if stepB s = true then told2 (cv a s) else 5) else 1

theorem stepB_iff (s : Int) : stepB s = true ↔ 1 ≤ s ∧ s ≤ 1000 := by simp [stepB, inB]

theorem div_parts (a s : Int) (hs : 1 ≤ s) : a / s * s ≤ a ∧ a < a / s * s + s ∧ a % s = a - a / s * s := by
  have h1 := Int.emod_add_ediv_mul a s
  have h2 := Int.emod_nonneg a (b := s) (by omega)
  have h3 := Int.emod_lt_of_pos a (b := s) (by omega)
  omega

theorem cv_low (a s : Int) (ha : 0 ≤ a) (hs : 1 ≤ s) (h : ¬ s < 2 * (a - a / s * s)) : a / s * s = cv a s := by
  obtain ⟨h1, h2, h3⟩ := div_parts a s hs
  have h4 : 0 ≤ a / s := Int.ediv_nonneg ha (by omega)
  have : cup (a / s) (a % s) s = false := by
    unfold cup; rw [h3]; simp; omega
  unfold cv cq
  rw [this, Int.mul_comm]; simp

theorem cv_high (a s : Int) (hs : 1 ≤ s) (h : s < 2 * (a - a / s * s)) : a / s * s + s = cv a s := by
  obtain ⟨h1, h2, h3⟩ := div_parts a s hs
  have : cup (a / s) (a % s) s = true := by
    unfold cup; rw [h3]; simp; omega
  unfold cv cq
  rw [this, if_pos rfl, Int.mul_add, Int.mul_comm]; omega

theorem cv_neg (a s : Int) (ha : a < 0) (hs : 1 ≤ s) : cv (-a) s = -(cv a s) := by
  obtain ⟨h1, h2, h3⟩ := div_parts a s hs
  have hq : a / s < 0 := Int.ediv_neg_of_neg_of_pos ha (by omega)
  by_cases hr : a % s = 0
  · have u := (Int.ediv_emod_unique (a := -a) (b := s) (q := -(a / s)) (r := 0) (by omega)).mpr ⟨by rw [Int.mul_neg, Int.mul_comm]; omega, by omega, by omega⟩
    have c1 : cup (a / s) (a % s) s = false := by rw [hr]; unfold cup; simp; omega
    have c2 : cup (-a / s) (-a % s) s = false := by rw [u.1, u.2]; unfold cup; simp; omega
    unfold cv cq
    rw [c1, c2, u.1]; simp [Int.mul_neg]
  · have hp : 0 < a % s := by have := Int.emod_nonneg a (b := s) (by omega); omega
    have hlt := Int.emod_lt_of_pos a (b := s) (by omega)
    have u := (Int.ediv_emod_unique (a := -a) (b := s) (q := -(a / s) - 1) (r := s - a % s) (by omega)).mpr ⟨by rw [Int.mul_sub, Int.mul_neg, Int.mul_comm]; omega, by omega, by omega⟩
    unfold cv cq
    rw [u.1, u.2]
    by_cases hc : s ≤ 2 * (a % s)
    · have c1 : cup (a / s) (a % s) s = true := by unfold cup; simp; omega
      have c2 : cup (-(a / s) - 1) (s - a % s) s = false := by unfold cup; simp; omega
      rw [c1, c2]; simp; rw [← Int.mul_neg]; congr 1; omega
    · have c1 : cup (a / s) (a % s) s = false := by unfold cup; simp; omega
      have c2 : cup (-(a / s) - 1) (s - a % s) s = true := by unfold cup; simp; omega
      rw [c1, c2]; simp [Int.mul_neg]

theorem told1_neg (x : Int) : told1 (-x) = -(told1 x) := by
  have h1 := amtB_iff x; have h2 := amtB_iff (-x)
  unfold told1
  by_cases h : amtB x = true
  · rw [if_pos h, if_pos (h2.mpr (by have := h1.mp h; omega))]
  · rw [if_neg h, if_neg (fun h' => h (h1.mpr (by have := h2.mp h'; omega)))]; rfl
theorem told2_neg (x : Int) : told2 (-x) = told2 x := by
  have h1 := amtB_iff x; have h2 := amtB_iff (-x)
  unfold told2
  by_cases h : amtB x = true
  · rw [if_pos h, if_pos (h2.mpr (by have := h1.mp h; omega))]
  · rw [if_neg h, if_neg (fun h' => h (h1.mpr (by have := h2.mp h'; omega)))]
theorem told1_bound (x : Int) : -1000000000 ≤ told1 x ∧ told1 x ≤ 1000000000 := by
  unfold told1
  by_cases h : amtB x = true
  · rw [if_pos h]; exact (amtB_iff x).mp h
  · rw [if_neg h]; omega


theorem cashUp_any (q r d : Int) (w : World) (hr : 0 ≤ r) (hr' : r < d) (hd : d ≤ 100000000) :
    Calls Try.prog 19 #[.agg #[.int .i64 q, .int .i64 r, .int .i64 d]] w fun e w' => e = .returned (.bool (cup q r d)) ∧ Below w.heap.size w w' := by
  unfold cup
  go_enter Try.func19, Try.ntmps19
  go_wp2_with (go_at_call 20; refine (nearer_any _ _ _ _ _ hr hr' hd).mono ?_; rintro e w1 ⟨rfl, hb1⟩)
  go_ret
  exact ⟨rfl, chain (below_alloc _ _) hb1⟩

theorem keep1 {W w1 : World} {b : Nat} {c0 : Value} (hb : Below W.heap.size W w1) (h : W.cell? ⟨b, 0, none⟩ = some c0 ∧ b < W.heap.size) : w1.cell? ⟨b, 0, none⟩ = some c0 ∧ b < w1.heap.size := by
  obtain ⟨h0, h4⟩ := h
  obtain ⟨hc, _, hz⟩ := bfacts hb
  exact ⟨(hc b 0 h4).trans h0, hz _ h4⟩

set_option maxHeartbeats 800000 in
theorem implCash_ok (a s : Int) (w : World) (hA : amtB a = true) (hS : stepB s = true) :
    Calls Try.prog 10 #[.int .i64 a, .int .i64 s] w fun e w' => e = .returned (.tuple #[.int .i64 (told1 (cv a s)), .int .i64 (told2 (cv a s))]) ∧ Below w.heap.size w w' := by
  obtain ⟨a1, a2⟩ := (amtB_iff a).mp hA
  obtain ⟨s1, s2⟩ := (stepB_iff s).mp hS
  have hdv := fun w => divide_any a s w (by omega) (by omega) s1 (by omega)
  have hem := Int.emod_nonneg a (b := s) (by omega)
  have hem' := Int.emod_lt_of_pos a (b := s) (by omega)
  obtain ⟨e1, e2⟩ := ediv_bound a s s1 1000000000 (by omega) (by omega)
  have hrn : ∀ w, Calls Try.prog 23 #[.agg #[.int .i64 (a / s), .int .i64 (a % s), .int .i64 s], .agg #[.func (.func 19) #[] #[]]] w fun e w' => e = .returned (.int .i64 (cq a s)) ∧ Below w.heap.size w w' := fun w =>
    rounded_fn5 (cup (a / s) (a % s) s) _ _ _ w (by omega) (by omega) (fun w => cashUp_any _ _ _ w hem hem' (by omega))
  have hcq : -1000000000 ≤ cq a s ∧ cq a s ≤ 1000000001 := by unfold cq; split <;> omega
  obtain ⟨c1, c2⟩ := mul_bound (cq a s) s 1000000001 1000 (by omega) (by omega) (by omega) s2 (by omega)
  rw [Int.mul_comm (cq a s) s] at c1 c2
  have l0 : ¬ s < 1 := by omega
  clear hcq hem hem' e1 e2
  go_enter Try.func10, Try.ntmps10
  go_wp2_with (first | (go_at_call 14; refine (implMoney_any _ _).mono ?_; rintro e w' ⟨rfl, rfl⟩))
  go_region_held3 (fun W => W.cell? ⟨w'.heap.size, 0, none⟩ = some (.func (.func 19) #[] #[]) ∧ w'.heap.size < W.heap.size) (first | go_keep | exact keep1 (by assumption) (by assumption)) (first | (go_at_call 22; refine (hdv _).mono ?_; rintro e w2 ⟨rfl, hb2⟩) | (go_at_call 23; refine (hrn _).mono ?_; rintro e w4 ⟨rfl, hb4⟩) | (go_at_call 21; refine (implTold_any _ _).mono ?_; rintro e w5 ⟨rfl, rfl⟩))
  go_wp2
  go_ret2
  have hx : IntKind.i64.wrap (s * cq a s) = cv a s := wrap_id _ (by omega) (by omega)
  exact ⟨ret_two (congrArg told1 hx) (congrArg told2 hx), by repeat (first | exact Below.refl _ _ | refine chain ?_ (by assumption) | refine chain ?_ (below_alloc _ _) | refine chain ?_ (below_drew _))⟩

theorem implCash_any (a s : Int) (w : World) :
    Calls Try.prog 10 #[.int .i64 a, .int .i64 s] w fun e w' => e = .returned (.tuple #[.int .i64 (cv1 a s), .int .i64 (cv2 a s)]) ∧ Below w.heap.size w w' := by
  unfold cv1 cv2
  cases hA : amtB a
  · go_enter Try.func10, Try.ntmps10
    go_wp2_with (first | (go_at_call 14; refine (implMoney_any _ _).mono ?_; rintro e w' ⟨rfl, rfl⟩))
    go_ret2
    exact ⟨rfl, by repeat (first | exact Below.refl _ _ | refine chain ?_ (by assumption) | refine chain ?_ (below_alloc _ _) | refine chain ?_ (below_drew _))⟩
  · cases hS : stepB s
    · have hw : s < 1 ∨ (1 ≤ s ∧ 1000 < s) := by
        by_cases h : s < 1
        · exact .inl h
        · by_cases h' : 1000 < s
          · exact .inr (by omega)
          · have : stepB s = true := (stepB_iff s).mpr (by omega)
            rw [this] at hS; cases hS
      rcases hw with h | ⟨h, h'⟩
      all_goals
        go_enter Try.func10, Try.ntmps10
        go_wp2_with (first | (go_at_call 14; refine (implMoney_any _ _).mono ?_; rintro e w' ⟨rfl, rfl⟩))
        go_ret2
        exact ⟨rfl, by repeat (first | exact Below.refl _ _ | refine chain ?_ (by assumption) | refine chain ?_ (below_alloc _ _) | refine chain ?_ (below_drew _))⟩
    · exact implCash_ok a s w hA hS
end Go.Proofs.Ytbppfncpkcojgaa
