/-
  Texts of this claim laid together: Modes, Amt, Told, WeighC, TlD.
-/
import Derived.Test.YtabpkfhbnendjaaGreatM14
import Derived.Test.YtabpkfhbnendjaaGreatM11
import Derived.Test.YtabpkfhbnendjaaGreatM3
import Derived.Test.YtabpkfhbnendjaaGreatM13
/-
  Contracts of the program's table of modes (a function in a struct's field for each mode) and of the rounding that calls through it, each for every argument within the bounds that its callers keep.
-/
namespace Go.Proofs.YtabpkfhbnendjaaGreat
open Go.ChangeShapes Go.WideShapes Go.ChangeAt Go.RowKit
set_option linter.unusedVariables false


theorem mode1_any (q r d : Int) (w : World) :
    Calls Tryz.prog 85 #[.agg #[.int .i64 q, .int .i64 r, .int .i64 d]] w fun e w' => e = .returned (.bool (upB q r d 1)) ∧ Below w.heap.size w w' := by
  have e : upB q r d 1 = false := by simp [upB]
  rw [e]
  go_enter Tryz.func85, Tryz.ntmps85
  go_wp2
  go_ret
  exact ⟨rfl, below_alloc _ _⟩

theorem mode2_any (q r d : Int) (w : World) :
    Calls Tryz.prog 86 #[.agg #[.int .i64 q, .int .i64 r, .int .i64 d]] w fun e w' => e = .returned (.bool (upB q r d 2)) ∧ Below w.heap.size w w' := by
  have e : upB q r d 2 = decide (0 < r) := by simp [upB]
  rw [e]
  go_enter Tryz.func86, Tryz.ntmps86
  go_wp2
  go_ret
  exact ⟨rfl, below_alloc _ _⟩


theorem odd_tmod (q : Int) : (q.tmod 2 != 0) = decide (q % 2 = 1) := by
  obtain ⟨f1, f2⟩ := tdiv_facts q 2 (by omega)
  obtain ⟨t1, t2⟩ := tmod_bound q 2 (by omega)
  by_cases h : 0 ≤ q.tmod 2
  · rw [(f1 h).2, Bool.eq_iff_iff]; simp; omega
  · have := (f2 (by omega)).2
    have e : q.tmod 2 = -1 := by omega
    rw [e, Bool.eq_iff_iff]; simp; omega

theorem up3 (q r d : Int) : upB q r d 3 = (decide (d < 2 * r) || (decide (2 * r = d) && (q.tmod 2 != 0))) := by
  rw [odd_tmod, Bool.eq_iff_iff]; simp [upB]
theorem up4 (q r d : Int) : upB q r d 4 = (decide (d < 2 * r) || (decide (2 * r = d) && decide (0 ≤ q))) := by
  rw [Bool.eq_iff_iff]; simp [upB]


theorem mode3_any (q r d : Int) (w : World) (hr : 0 ≤ r) (hr' : r < d) (hd : d ≤ 100000000) :
    Calls Tryz.prog 87 #[.agg #[.int .i64 q, .int .i64 r, .int .i64 d]] w fun e w' => e = .returned (.bool (upB q r d 3)) ∧ Below w.heap.size w w' := by
  rw [up3]
  go_enter Tryz.func87, Tryz.ntmps87
  go_wp2_with (go_at_call 88; refine (nearer_any _ _ _ _ _ hr hr' hd).mono ?_; rintro e w1 ⟨rfl, hb1⟩)
  go_ret
  exact ⟨rfl, chain (below_alloc _ _) hb1⟩

theorem mode4_any (q r d : Int) (w : World) (hr : 0 ≤ r) (hr' : r < d) (hd : d ≤ 100000000) :
    Calls Tryz.prog 89 #[.agg #[.int .i64 q, .int .i64 r, .int .i64 d]] w fun e w' => e = .returned (.bool (upB q r d 4)) ∧ Below w.heap.size w w' := by
  rw [up4]
  go_enter Tryz.func89, Tryz.ntmps89
  go_wp2_with (go_at_call 88; refine (nearer_any _ _ _ _ _ hr hr' hd).mono ?_; rintro e w1 ⟨rfl, hb1⟩)
  go_ret
  exact ⟨rfl, chain (below_alloc _ _) hb1⟩



theorem rounded_fn1 (u : Bool) (q r d : Int) (w : World) (hq : -1000000000000000000 ≤ q) (hq' : q ≤ 1000000000000000000)
    (hk : ∀ w, Calls Tryz.prog 85 #[.agg #[.int .i64 q, .int .i64 r, .int .i64 d]] w fun e w' => e = .returned (.bool u) ∧ Below w.heap.size w w') :
    Calls Tryz.prog 77 #[.agg #[.int .i64 q, .int .i64 r, .int .i64 d], .agg #[.func (.func 85) #[] #[]]] w fun e w' => e = .returned (.int .i64 (if u = true then q + 1 else q)) ∧ Below w.heap.size w w' := by
  cases u
  all_goals
    go_enter Tryz.func77, Tryz.ntmps77
    go_wp2_with (go_at_call 85; refine (hk _).mono ?_; rintro e w1 ⟨rfl, hb1⟩; obtain ⟨hc1, hf1, hz1⟩ := bfacts hb1)
    go_ret
    exact ⟨rfl, chain (chain (below_alloc _ _) (below_alloc _ _)) hb1⟩

theorem rounded_fn2 (u : Bool) (q r d : Int) (w : World) (hq : -1000000000000000000 ≤ q) (hq' : q ≤ 1000000000000000000)
    (hk : ∀ w, Calls Tryz.prog 86 #[.agg #[.int .i64 q, .int .i64 r, .int .i64 d]] w fun e w' => e = .returned (.bool u) ∧ Below w.heap.size w w') :
    Calls Tryz.prog 77 #[.agg #[.int .i64 q, .int .i64 r, .int .i64 d], .agg #[.func (.func 86) #[] #[]]] w fun e w' => e = .returned (.int .i64 (if u = true then q + 1 else q)) ∧ Below w.heap.size w w' := by
  cases u
  all_goals
    go_enter Tryz.func77, Tryz.ntmps77
    go_wp2_with (go_at_call 86; refine (hk _).mono ?_; rintro e w1 ⟨rfl, hb1⟩; obtain ⟨hc1, hf1, hz1⟩ := bfacts hb1)
    go_ret
    exact ⟨rfl, chain (chain (below_alloc _ _) (below_alloc _ _)) hb1⟩

theorem rounded_fn3 (u : Bool) (q r d : Int) (w : World) (hq : -1000000000000000000 ≤ q) (hq' : q ≤ 1000000000000000000)
    (hk : ∀ w, Calls Tryz.prog 87 #[.agg #[.int .i64 q, .int .i64 r, .int .i64 d]] w fun e w' => e = .returned (.bool u) ∧ Below w.heap.size w w') :
    Calls Tryz.prog 77 #[.agg #[.int .i64 q, .int .i64 r, .int .i64 d], .agg #[.func (.func 87) #[] #[]]] w fun e w' => e = .returned (.int .i64 (if u = true then q + 1 else q)) ∧ Below w.heap.size w w' := by
  cases u
  all_goals
    go_enter Tryz.func77, Tryz.ntmps77
    go_wp2_with (go_at_call 87; refine (hk _).mono ?_; rintro e w1 ⟨rfl, hb1⟩; obtain ⟨hc1, hf1, hz1⟩ := bfacts hb1)
    go_ret
    exact ⟨rfl, chain (chain (below_alloc _ _) (below_alloc _ _)) hb1⟩

theorem rounded_fn4 (u : Bool) (q r d : Int) (w : World) (hq : -1000000000000000000 ≤ q) (hq' : q ≤ 1000000000000000000)
    (hk : ∀ w, Calls Tryz.prog 89 #[.agg #[.int .i64 q, .int .i64 r, .int .i64 d]] w fun e w' => e = .returned (.bool u) ∧ Below w.heap.size w w') :
    Calls Tryz.prog 77 #[.agg #[.int .i64 q, .int .i64 r, .int .i64 d], .agg #[.func (.func 89) #[] #[]]] w fun e w' => e = .returned (.int .i64 (if u = true then q + 1 else q)) ∧ Below w.heap.size w w' := by
  cases u
  all_goals
    go_enter Tryz.func77, Tryz.ntmps77
    go_wp2_with (go_at_call 89; refine (hk _).mono ?_; rintro e w1 ⟨rfl, hb1⟩; obtain ⟨hc1, hf1, hz1⟩ := bfacts hb1)
    go_ret
    exact ⟨rfl, chain (chain (below_alloc _ _) (below_alloc _ _)) hb1⟩


theorem roundings_any (w : World) :
    Calls Tryz.prog 78 #[] w fun e w' => e = .returned (.agg #[.nilFunc, .func (.func 85) #[] #[], .func (.func 86) #[] #[], .func (.func 87) #[] #[], .func (.func 89) #[] #[]]) ∧ Below w.heap.size w w' := by
  go_enter Tryz.func78, Tryz.ntmps78
  go_wp2
  refine bodyPost_ret (v := .agg #[.nilFunc, .func (.func 85) #[] #[], .func (.func 86) #[] #[], .func (.func 87) #[] #[], .func (.func 89) #[] #[]]) (by simp [results, Tryz.results78, go_sem]) rfl ⟨rfl, below_alloc _ _⟩

end Go.Proofs.YtabpkfhbnendjaaGreat

/-
  Contracts of the functions of chapter 2 that ask whether a number is an amount (the specification's and the program's), each for every number.
-/
namespace Go.Proofs.YtabpkfhbnendjaaGreat
open Go.ChangeShapes Go.WideShapes Go.ChangeAt Go.RowKit
set_option linter.unusedVariables false

def amtB (a : Int) : Bool := inB a (-1000000000) 1000000000
def told1 (x : Int) : Int := if amtB x = true then x else 0
def told2 (x : Int) : Int := if amtB x = true then 0 else 11
def modeB (m : Int) : Bool := inB m 1 4

theorem amtB_iff (a : Int) : amtB a = true ↔ -1000000000 ≤ a ∧ a ≤ 1000000000 := by simp [amtB, inB]
theorem modeB_iff (a : Int) : modeB a = true ↔ a = 1 ∨ a = 2 ∨ a = 3 ∨ a = 4 := by simp [modeB, inB]; omega
theorem rateB_iff (n d : Int) : rateB n d = true ↔ (0 ≤ n ∧ n ≤ 10000) ∧ 1 ≤ d ∧ d ≤ 10000 := by simp [rateB]


theorem specMoney_any (n : Int) (w : World) :
    Calls Tryz.prog 57 #[.int .i64 n] w fun e w' => e = .returned (.bool (amtB n)) ∧ w' = w := by
  go_enter Tryz.func57, Tryz.ntmps57
  go_wp2_with (go_at_call 33; refine (in_any _ _ _ _).mono ?_; rintro e w' ⟨rfl, rfl⟩)
  go_ret
  exact ⟨rfl, rfl⟩


theorem implMoney_any (n : Int) (w : World) :
    Calls Tryz.prog 74 #[.int .i64 n] w fun e w' => e = .returned (.bool (amtB n)) ∧ w' = w := by
  rcases in_ways n (-1000000000) 1000000000 with h | ⟨h1, h2⟩ | ⟨h1, h2⟩
  all_goals
    go_enter Tryz.func74, Tryz.ntmps74
    go_wp2
    go_ret
    exact ⟨ret_bool (by first | exact (decide_eq_false (by omega)).symm | exact (decide_eq_true (by omega)).symm | exact decide_eq_decide.mpr (by omega)), rfl⟩

end Go.Proofs.YtabpkfhbnendjaaGreat

/-
  Contracts of the functions of chapter 2 that ask whether a number is an amount or a mode, and tell it (the specification's and the program's), each for every argument.
-/
namespace Go.Proofs.YtabpkfhbnendjaaGreat
open Go.ChangeShapes Go.WideShapes Go.ChangeAt Go.RowKit
set_option linter.unusedVariables false


theorem specTold_any (n : Int) (w : World) :
    Calls Tryz.prog 58 #[.int .i64 n] w fun e w' => e = .returned (.tuple #[.int .i64 (told1 n), .int .i64 (told2 n)]) ∧ w' = w := by
  unfold told1 told2
  cases h : amtB n
  all_goals
    go_enter Tryz.func58, Tryz.ntmps58
    go_wp2_with (go_at_call 57; refine (specMoney_any _ _).mono ?_; rintro e w' ⟨rfl, rfl⟩)
    go_ret2
    exact ⟨rfl, rfl⟩



theorem implTold_any (n : Int) (w : World) :
    Calls Tryz.prog 75 #[.int .i64 n] w fun e w' => e = .returned (.tuple #[.int .i64 (told1 n), .int .i64 (told2 n)]) ∧ w' = w := by
  unfold told1 told2
  cases h : amtB n
  all_goals
    go_enter Tryz.func75, Tryz.ntmps75
    go_wp2_with (go_at_call 74; refine (implMoney_any _ _).mono ?_; rintro e w' ⟨rfl, rfl⟩)
    go_ret2
    exact ⟨rfl, rfl⟩



theorem mul_bound (a n k l : Int) (h1 : -k ≤ a) (h2 : a ≤ k) (h3 : 0 ≤ n) (h4 : n ≤ l) (hk : 0 ≤ k) : -(k * l) ≤ a * n ∧ a * n ≤ k * l := by
  have h5 : a * n ≤ k * n := Int.mul_le_mul_of_nonneg_right h2 h3
  have h6 : -k * n ≤ a * n := Int.mul_le_mul_of_nonneg_right h1 h3
  have h7 : k * n ≤ k * l := Int.mul_le_mul_of_nonneg_left h4 hk
  rw [Int.neg_mul] at h6
  omega

end Go.Proofs.YtabpkfhbnendjaaGreat

/-
  Contracts of ByWeight, the program's and the specification's.
-/
namespace Go.Proofs.YtabpkfhbnendjaaGreat
open Go.ChangeShapes Go.WideShapes Go.ChangeAt Go.RowKit Go.Joins
set_option linter.unusedVariables false

def grB (g : Int) : Bool := inB g 0 99999
theorem grB_iff (g : Int) : grB g = true ↔ 0 ≤ g ∧ g ≤ 99999 := by simp [grB, inB]
/-- What ByWeight answers: the amount, the code. -/
def bwQ (a g : Int) : Int := rq (a * g / 1000) (a * g % 1000) 1000 3
def bw1 (a g : Int) : Int := if (amtB a && grB g) = true then told1 (bwQ a g) else 0
def bw2 (a g : Int) : Int := if amtB a = true then (if grB g = true then told2 (bwQ a g) else 5) else 1

theorem specWeigh_any (a g : Int) (w : World) :
    Calls Tryz.prog 52 #[.int .i64 a, .int .i64 g] w fun e w' => e = .returned (.tuple #[.int .i64 (bw1 a g), .int .i64 (bw2 a g)]) ∧ w' = w := by
  unfold bw1 bw2
  cases hA : amtB a
  · go_enter Tryz.func52, Tryz.ntmps52
    go_wp2_with (first | (go_at_call 57; refine (specMoney_any _ _).mono ?_; rintro e w' ⟨rfl, rfl⟩))
    go_ret2
    exact ⟨rfl, rfl⟩
  · cases hG : grB g
    · have hin : ∀ w, Calls Tryz.prog 33 #[.int .i64 g, .int .i64 0, .int .i64 99999] w fun e w' => e = .returned (.bool false) ∧ w' = w := fun w => hG ▸ in_any g 0 99999 w
      go_enter Tryz.func52, Tryz.ntmps52
      go_wp2_with (first | (go_at_call 57; refine (specMoney_any _ _).mono ?_; rintro e w' ⟨rfl, rfl⟩) | (go_at_call 33; refine (hin _).mono ?_; rintro e w' ⟨rfl, rfl⟩))
      go_ret2
      exact ⟨rfl, rfl⟩
    · have hin : ∀ w, Calls Tryz.prog 33 #[.int .i64 g, .int .i64 0, .int .i64 99999] w fun e w' => e = .returned (.bool true) ∧ w' = w := fun w => hG ▸ in_any g 0 99999 w
      obtain ⟨a1, a2⟩ := (amtB_iff a).mp hA
      obtain ⟨g1, g2⟩ := (grB_iff g).mp hG
      obtain ⟨b1, b2⟩ := mul_bound a g 1000000000 99999 a1 a2 g1 g2 (by omega)
      have hrd : ∀ w, Calls Tryz.prog 59 #[.int .i64 (a * g), .int .i64 1000, .int .i64 3] w fun e w' => e = .returned (.int .i64 (bwQ a g)) ∧ w' = w := fun w => round_any (a * g) 1000 3 w (by omega) (by omega) (by omega) (by omega) (.inr (.inr (.inl rfl)))
      go_enter Tryz.func52, Tryz.ntmps52
      go_wp2_with (first | (go_at_call 57; refine (specMoney_any _ _).mono ?_; rintro e w' ⟨rfl, rfl⟩) | (go_at_call 33; refine (hin _).mono ?_; rintro e w' ⟨rfl, rfl⟩) | (go_at_call 59; refine (hrd _).mono ?_; rintro e w' ⟨rfl, rfl⟩) | (go_at_call 58; refine (specTold_any _ _).mono ?_; rintro e w' ⟨rfl, rfl⟩))
      go_ret2
      exact ⟨rfl, rfl⟩

theorem implWeigh_any (a g : Int) (w : World) :
    Calls Tryz.prog 68 #[.int .i64 a, .int .i64 g] w fun e w' => e = .returned (.tuple #[.int .i64 (bw1 a g), .int .i64 (bw2 a g)]) ∧ Below w.heap.size w w' := by
  unfold bw1 bw2
  cases hA : amtB a
  · go_enter Tryz.func68, Tryz.ntmps68
    go_wp2_with (first | (go_at_call 74; refine (implMoney_any _ _).mono ?_; rintro e w' ⟨rfl, rfl⟩))
    go_ret2
    exact ⟨rfl, Below.refl _ _⟩
  · rcases in_ways g 0 99999 with h | ⟨h1, h2⟩ | ⟨h1, h2⟩
    · have hG : grB g = false := decide_eq_false (by omega)
      rw [hG]
      go_enter Tryz.func68, Tryz.ntmps68
      go_wp2_with (first | (go_at_call 74; refine (implMoney_any _ _).mono ?_; rintro e w' ⟨rfl, rfl⟩))
      go_ret2
      exact ⟨rfl, Below.refl _ _⟩
    · have hG : grB g = false := decide_eq_false (by omega)
      rw [hG]
      go_enter Tryz.func68, Tryz.ntmps68
      go_wp2_with (first | (go_at_call 74; refine (implMoney_any _ _).mono ?_; rintro e w' ⟨rfl, rfl⟩))
      go_ret2
      exact ⟨rfl, Below.refl _ _⟩
    · have hG : grB g = true := decide_eq_true (by omega)
      rw [hG]
      obtain ⟨a1, a2⟩ := (amtB_iff a).mp hA
      obtain ⟨b1, b2⟩ := mul_bound a g 1000000000 99999 a1 a2 h1 h2 (by omega)
      have hdv := fun w => divide_any (a * g) 1000 w (by omega) (by omega) (by omega) (by omega)
      have hem := Int.emod_nonneg (a * g) (b := 1000) (by omega)
      have hem' := Int.emod_lt_of_pos (a * g) (b := 1000) (by omega)
      obtain ⟨e1, e2⟩ := ediv_bound (a * g) 1000 (by omega) 1000000000000000000 (by omega) (by omega)
      have hrn : ∀ w, Calls Tryz.prog 77 #[.agg #[.int .i64 (a * g / 1000), .int .i64 (a * g % 1000), .int .i64 1000], .agg #[.func (.func 87) #[] #[]]] w fun e w' => e = .returned (.int .i64 (bwQ a g)) ∧ Below w.heap.size w w' := fun w =>
        rounded_fn3 _ _ _ _ w e1 e2 (fun w => mode3_any _ _ _ w hem hem' (by omega))
      have hix : ∀ w, (Instr.index 137 (.agg #[.nilFunc, .func (.func 85) #[] #[], .func (.func 86) #[] #[], .func (.func 87) #[] #[], .func (.func 89) #[] #[]]) (.int .i64 3)).run Tryz.prog w = .ok (.agg #[.func (.func 87) #[] #[]]) w := fun _ => by kernel_rfl
      clear hem hem' e1 e2
      go_enter Tryz.func68, Tryz.ntmps68
      go_wp2_with (first | (go_at_call 74; refine (implMoney_any _ _).mono ?_; rintro e w' ⟨rfl, rfl⟩) | (go_at_call 76; refine (hdv _).mono ?_; rintro e w2 ⟨rfl, hb2⟩; obtain ⟨hc2, hf2, hz2⟩ := bfacts hb2) | (go_at_call 78; refine (roundings_any _).mono ?_; rintro e w3 ⟨rfl, hb3⟩; obtain ⟨hc3, hf3, hz3⟩ := bfacts hb3) | (go_at_call 77; refine (hrn _).mono ?_; rintro e w4 ⟨rfl, hb4⟩; obtain ⟨hc4, hf4, hz4⟩ := bfacts hb4) | (go_at_call 75; refine (implTold_any _ _).mono ?_; rintro e w' ⟨rfl, rfl⟩))
      go_ret2
      exact ⟨rfl, by repeat (first | exact Below.refl _ _ | refine chain ?_ (by assumption) | refine chain ?_ (below_alloc _ _) | refine chain ?_ (below_drew _))⟩

end Go.Proofs.YtabpkfhbnendjaaGreat

/-
  A scan as the program reads it: amountOf, scanOf.
-/
namespace Go.Proofs.YtabpkfhbnendjaaGreat
open Go.ChangeShapes Go.WideShapes Go.ChangeAt Go.RowKit Go.Deep
set_option linter.unusedVariables false

theorem blkCell {W : World} {b : Nat} {V : Array Value} {t : TypeId} (h : W.heap[b]? = some (.cells V t (0, 0))) (j : Nat) (v : Value) (hv : V[j]? = some v) : W.cell? ⟨b, j, none⟩ = some v := by
  unfold World.cell?; rw [h]; simpa using hv
theorem blkFree {W : World} {b : Nat} {V : Array Value} {t : TypeId} (h : W.heap[b]? = some (.cells V t (0, 0))) (j : Nat) : W.frozen? ⟨b, j, none⟩ = false := by
  unfold World.frozen?; rw [h]; simp
theorem blkLt {W : World} {b : Nat} {o : Obj} (h : W.heap[b]? = some o) : b < W.heap.size := (Array.getElem?_eq_some_iff.1 h).1
def amtM (k v pr ct : Int) : Int := if k = 2 then bw1 pr v else if k = 3 then v else pr * ct
theorem bw1_nn (a g : Int) (ha : 0 ≤ a) : 0 ≤ bw1 a g ∧ bw1 a g ≤ 1000000000 := by
  unfold bw1
  split
  · rename_i h
    simp only [Bool.and_eq_true] at h
    obtain ⟨g1, g2⟩ := (grB_iff g).mp h.2
    have hp : 0 ≤ a * g := Int.mul_nonneg ha g1
    have hq : 0 ≤ bwQ a g := by
      unfold bwQ rq
      have : 0 ≤ a * g / 1000 := Int.ediv_nonneg hp (by omega)
      split <;> omega
    unfold told1
    split
    · rename_i h2
      obtain ⟨k1, k2⟩ := (amtB_iff _).mp h2
      exact ⟨hq, k2⟩
    · omega
  · omega
theorem amtM_nn (k v pr ct : Int) (hv : 0 ≤ v ∧ v ≤ 99999) (hp : 0 ≤ pr ∧ pr ≤ 1000000) (hc : 1 ≤ ct ∧ ct ≤ 99) : 0 ≤ amtM k v pr ct ∧ amtM k v pr ct ≤ 1000000000 := by
  unfold amtM
  split
  · exact bw1_nn pr v hp.1
  · split
    · omega
    · have h1 : 0 ≤ pr * ct := Int.mul_nonneg hp.1 (by omega)
      have h2 : pr * ct ≤ 1000000 * 99 := Int.mul_le_mul hp.2 hc.2 (by omega) (by omega)
      exact ⟨h1, by omega⟩
set_option maxHeartbeats 4000000 in
theorem amountOf_any (x : ByteArray) (p d cl g k : Int) (a : ByteArray) (v ct : Int) (hp : 0 ≤ p ∧ p ≤ 1000000) (hc : 1 ≤ ct ∧ ct ≤ 99) (w : World) :
    Calls Tryz.prog 55 #[.agg #[.string x, .int .i64 p, .int .i64 d, .int .i64 cl, .int .i64 g], .agg #[.int .i64 k, .string a, .int .i64 v], .int .i64 ct] w fun e w' => e = .returned (.int .i64 (amtM k v p ct)) ∧ Below w.heap.size w w' := by
  have l1 : ∀ n : Nat, n < n + 1 + 1 := fun n => by omega
  have hW := fun w => implWeigh_any p v w
  have h1 : 0 ≤ p * ct := Int.mul_nonneg hp.1 (by omega)
  have h2 : p * ct ≤ 1000000 * 99 := Int.mul_le_mul hp.2 hc.2 (by omega) (by omega)
  have hw : IntKind.i64.wrap (p * ct) = p * ct := wrap_id _ (by omega) (by omega)
  unfold amtM
  rcases (by omega : k = 2 ∨ (k = 3 ∧ ¬ k = 2) ∨ (¬ k = 2 ∧ ¬ k = 3)) with h | ⟨h, h'⟩ | ⟨h, h'⟩
  · rw [if_pos h]
    subst h
    generalize bw1 p v = q1 at *
    generalize bw2 p v = q2 at *
    go_enter Tryz.func55, Tryz.ntmps55
    go_wp2_with (go_at_call 68; refine (hW _).mono ?_; rintro e w2 ⟨rfl, hb2⟩)
    go_ret
    exact ⟨rfl, chain (chain (below_alloc _ _) (below_alloc _ _)) hb2⟩
  · rw [if_neg h', if_pos h]
    subst h
    go_enter Tryz.func55, Tryz.ntmps55
    go_wp2
    go_ret
    exact ⟨rfl, chain (below_alloc _ _) (below_alloc _ _)⟩
  · rw [if_neg h, if_neg h']
    have e2 : (k == 2) = false := by simpa using h
    have e3 : (k == 3) = false := by simpa using h'
    go_enter Tryz.func55, Tryz.ntmps55
    go_wp2
    go_ret
    exact ⟨rfl, chain (below_alloc _ _) (below_alloc _ _)⟩
/-- The code of a scan that hangs on the items alone. -/
def scanE (R : ByteArray → Int × ByteArray × Int × Int) (its : List RIt) (tx : ByteArray) (ct : Int) : Int :=
  if (R tx).2.2.2 ≠ 0 then (R tx).2.2.2 else if itIx (R tx).2.1 its < 0 then 6 else if ct < 1 ∨ 99 < ct ∨ (1 < ct ∧ (R tx).1 ≠ 1) then 5 else 0
def scanIt (R : ByteArray → Int × ByteArray × Int × Int) (its : List RIt) (tx : ByteArray) : RIt := its.getD (itIx (R tx).2.1 its).toNat zIt
def scanL (R : ByteArray → Int × ByteArray × Int × Int) (its : List RIt) (tx : ByteArray) (ct : Int) : RLi :=
  if scanE R its tx ct = 0 then ⟨itIx (R tx).2.1 its, ct, amtM (R tx).1 (R tx).2.2.1 (scanIt R its tx).pr ct, (scanIt R its tx).dp * ct⟩ else ⟨0, 0, 0, 0⟩
def scanG (R : ByteArray → Int × ByteArray × Int × Int) (its : List RIt) (tx : ByteArray) (ct : Int) : Int := if scanE R its tx ct = 0 then (scanIt R its tx).ag else 0
theorem scan_ways (R : ByteArray → Int × ByteArray × Int × Int) (its : List RIt) (tx : ByteArray) (ct : Int) :
    ((R tx).2.2.2 ≠ 0 ∧ scanE R its tx ct = (R tx).2.2.2 ∧ scanL R its tx ct = ⟨0, 0, 0, 0⟩ ∧ scanG R its tx ct = 0) ∨
    ((R tx).2.2.2 = 0 ∧ itIx (R tx).2.1 its < 0 ∧ scanE R its tx ct = 6 ∧ scanL R its tx ct = ⟨0, 0, 0, 0⟩ ∧ scanG R its tx ct = 0) ∨
    ((R tx).2.2.2 = 0 ∧ 0 ≤ itIx (R tx).2.1 its ∧ (ct < 1 ∨ 99 < ct ∨ (1 < ct ∧ (R tx).1 ≠ 1)) ∧ scanE R its tx ct = 5 ∧ scanL R its tx ct = ⟨0, 0, 0, 0⟩ ∧ scanG R its tx ct = 0) ∨
    ((R tx).2.2.2 = 0 ∧ 0 ≤ itIx (R tx).2.1 its ∧ (1 ≤ ct ∧ ct ≤ 99 ∧ (ct = 1 ∨ (R tx).1 = 1)) ∧ scanE R its tx ct = 0 ∧ scanL R its tx ct = ⟨itIx (R tx).2.1 its, ct, amtM (R tx).1 (R tx).2.2.1 (scanIt R its tx).pr ct, (scanIt R its tx).dp * ct⟩ ∧ scanG R its tx ct = (scanIt R its tx).ag) := by
  unfold scanL scanG
  by_cases h1 : (R tx).2.2.2 = 0
  · by_cases h2 : itIx (R tx).2.1 its < 0
    · have e : scanE R its tx ct = 6 := by unfold scanE; rw [if_neg (by simp [h1]), if_pos h2]
      rw [e]
      exact .inr (.inl ⟨h1, h2, rfl, rfl, rfl⟩)
    · by_cases h3 : ct < 1 ∨ 99 < ct ∨ (1 < ct ∧ (R tx).1 ≠ 1)
      · have e : scanE R its tx ct = 5 := by unfold scanE; rw [if_neg (by simp [h1]), if_neg h2, if_pos h3]
        rw [e]
        exact .inr (.inr (.inl ⟨h1, by omega, h3, rfl, rfl, rfl⟩))
      · have e : scanE R its tx ct = 0 := by unfold scanE; rw [if_neg (by simp [h1]), if_neg h2, if_neg h3]
        rw [e]
        exact .inr (.inr (.inr ⟨h1, by omega, ⟨by omega, by omega, by omega⟩, rfl, rfl, rfl⟩))
  · have e : scanE R its tx ct = (R tx).2.2.2 := by unfold scanE; rw [if_pos h1]
    rw [e, if_neg h1, if_neg h1]
    exact .inl ⟨h1, rfl, rfl, rfl⟩
end Go.Proofs.YtabpkfhbnendjaaGreat
