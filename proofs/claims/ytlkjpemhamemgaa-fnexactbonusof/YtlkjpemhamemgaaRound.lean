/-
  Contracts of the functions of chapter 2 that round a quotient (the specification's l01Floor and l01Round; the program's divide, nearerUp, rounded and the table of its modes), each for every argument within the bounds that its callers keep.
-/
import Derived.Test.YtlkjpemhamemgaaRate
import Derived.BigQuiet
import Derived.Deep.QuietTactic
import Derived.WalkLawsBesides
import Derived.Laws.EntriesVeiled
import Derived.Laws.Bits128
import Derived.Deep.Light
namespace Go.Proofs.Ytlkjpemhamemgaa
open Go.ChangeShapes Go.WideShapes Go.ChangeAt Go.RowKit
set_option linter.unusedVariables false

theorem and_one (n : Int) : bits .and .i64 n 1 = n % 2 := by
  have h1 : (BitVec.ofInt 64 1).toNat = 2 ^ 1 - 1 := by decide
  have key : (BitVec.ofInt 64 n &&& BitVec.ofInt 64 1).toNat = (n % ((2 ^ 64 : Nat) : Int)).toNat % 2 ^ 1 := by
    rw [BitVec.toNat_and, BitVec.toNat_ofInt, h1, Nat.and_two_pow_sub_one_eq_mod]
  show IntKind.i64.wrap ((BitVec.ofInt 64 n &&& BitVec.ofInt 64 1).toNat : Nat) = n % 2
  rw [key, IntKind.wrap_i64]
  omega

theorem tmod_gt (a : Int) {b : Int} (hb : 0 < b) : -b < a.tmod b := by
  have h := Int.tmod_lt_of_pos (-a) hb
  rw [Int.neg_tmod] at h
  omega

/-- Goes a quotient of floor q, rest r over d up, by mode m? -/
def upB (q r d m : Int) : Bool := decide ((m = 2 ∧ 0 < r) ∨ (m = 3 ∧ (d < 2 * r ∨ (2 * r = d ∧ q % 2 = 1))) ∨ (m = 4 ∧ (d < 2 * r ∨ (2 * r = d ∧ 0 ≤ q))))
def rq (q r d m : Int) : Int := if upB q r d m = true then q + 1 else q

theorem rq_of (x q r d m : Int) (h : (((m = 2 ∧ 0 < r) ∨ (m = 3 ∧ (d < 2 * r ∨ (2 * r = d ∧ q % 2 = 1))) ∨ (m = 4 ∧ (d < 2 * r ∨ (2 * r = d ∧ 0 ≤ q)))) ∧ x = q + 1) ∨
    (¬ ((m = 2 ∧ 0 < r) ∨ (m = 3 ∧ (d < 2 * r ∨ (2 * r = d ∧ q % 2 = 1))) ∨ (m = 4 ∧ (d < 2 * r ∨ (2 * r = d ∧ 0 ≤ q)))) ∧ x = q)) : x = rq q r d m := by
  unfold rq upB
  simp only [decide_eq_true_eq]
  rcases h with ⟨h, e⟩ | ⟨h, e⟩
  · rw [if_pos h, e]
  · rw [if_neg h, e]

theorem tdiv_facts (a b : Int) (hb : 1 ≤ b) : (0 ≤ a.tmod b → a.tdiv b = a / b ∧ a.tmod b = a % b) ∧ (a.tmod b < 0 → a.tdiv b - 1 = a / b ∧ a.tmod b + b = a % b) := by
  have h1 := Int.tmod_add_mul_tdiv a b
  have h2 := Int.tmod_lt_of_pos a (b := b) (by omega)
  have h3 := tmod_gt a (b := b) (by omega)
  constructor
  · intro h
    have := (Int.ediv_emod_unique (a := a) (b := b) (q := a.tdiv b) (r := a.tmod b) (by omega)).mpr ⟨h1, h, h2⟩
    exact ⟨this.1.symm, this.2.symm⟩
  · intro h
    have e : a.tmod b + b + b * (a.tdiv b - 1) = a := by rw [Int.mul_sub]; omega
    have := (Int.ediv_emod_unique (a := a) (b := b) (q := a.tdiv b - 1) (r := a.tmod b + b) (by omega)).mpr ⟨e, by omega, by omega⟩
    exact ⟨this.1.symm, this.2.symm⟩

theorem tdiv_bound (a b : Int) (hb : 1 ≤ b) (k : Int) (h : -k ≤ a) (h' : a ≤ k) : -k ≤ a.tdiv b ∧ a.tdiv b ≤ k := by
  have h1 := Int.tmod_add_mul_tdiv a b
  have h2 := Int.tmod_lt_of_pos a (b := b) (by omega)
  have h3 := tmod_gt a (b := b) (by omega)
  have hk : 0 ≤ k := by omega
  constructor
  · by_cases hc : -k ≤ a.tdiv b
    · exact hc
    · have : b * a.tdiv b ≤ b * (-k - 1) := Int.mul_le_mul_of_nonneg_left (by omega) (by omega)
      have h5 : b * (-k - 1) = -(b * k) - b := by rw [Int.mul_sub, Int.mul_neg]; omega
      have h6 : 1 * k ≤ b * k := Int.mul_le_mul_of_nonneg_right hb hk
      omega
  · by_cases hc : a.tdiv b ≤ k
    · exact hc
    · have : b * (k + 1) ≤ b * a.tdiv b := Int.mul_le_mul_of_nonneg_left (by omega) (by omega)
      have h5 : b * (k + 1) = b * k + b := by rw [Int.mul_add]; omega
      have h6 : 1 * k ≤ b * k := Int.mul_le_mul_of_nonneg_right hb hk
      omega

theorem tmod_bound (a b : Int) (hb : 1 ≤ b) : -b < a.tmod b ∧ a.tmod b < b :=
  ⟨tmod_gt a (by omega), Int.tmod_lt_of_pos a (by omega)⟩


theorem floor_any (a b : Int) (w : World) (ha : -1000000000000000000 ≤ a) (ha' : a ≤ 1000000000000000000) (hb : 1 ≤ b) (hb' : b ≤ 100000000) :
    Calls Try.prog 103 #[.int .i64 a, .int .i64 b] w fun e w' => e = .returned (.int .i64 (a / b)) ∧ w' = w := by
  obtain ⟨f1, f2⟩ := tdiv_facts a b hb
  obtain ⟨t1, t2⟩ := tdiv_bound a b hb 1000000000000000000 ha ha'
  have F1 : Hid (0 ≤ a.tmod b → a.tdiv b = a / b ∧ a.tmod b = a % b) := f1
  have F2 : Hid (a.tmod b < 0 → a.tdiv b - 1 = a / b ∧ a.tmod b + b = a % b) := f2
  clear f1 f2
  go_enter Try.func103, Try.ntmps103
  go_wp2
  all_goals
    go_ret
    first
      | exact ⟨ret_int (F1.out (by assumption)).1, rfl⟩
      | exact ⟨ret_int (F2.out (by assumption)).1, rfl⟩



theorem divide_any (a b : Int) (w : World) (ha : -1000000000000000000 ≤ a) (ha' : a ≤ 1000000000000000000) (hb : 1 ≤ b) (hb' : b ≤ 100000000) :
    Calls Try.prog 113 #[.int .i64 a, .int .i64 b] w fun e w' => e = .returned (.agg #[.int .i64 (a / b), .int .i64 (a % b), .int .i64 b]) ∧ Below w.heap.size w w' := by
  obtain ⟨f1, f2⟩ := tdiv_facts a b hb
  obtain ⟨t1, t2⟩ := tdiv_bound a b hb 1000000000000000000 ha ha'
  obtain ⟨t3, t4⟩ := tmod_bound a b hb
  have F1 : Hid (0 ≤ a.tmod b → a.tdiv b = a / b ∧ a.tmod b = a % b) := f1
  have F2 : Hid (a.tmod b < 0 → a.tdiv b - 1 = a / b ∧ a.tmod b + b = a % b) := f2
  clear f1 f2
  go_enter Try.func113, Try.ntmps113
  go_wp2
  go_quiet (fail)
  go_wp2
  · obtain ⟨e1, e2⟩ := F2.out (by assumption)
    refine bodyPost_ret (v := .agg #[.int .i64 (a.tdiv b - 1), .int .i64 (a.tmod b + b), .int .i64 b]) (by simp [results, Try.results113, go_sem]) rfl ⟨by rw [e1, e2], ?_⟩
    exact (((below_drewN (below_alloc _ _) _).setCell (by simp) _).setCell (by simp) _).setCell (by simp) _
  · obtain ⟨e1, e2⟩ := F1.out (by assumption)
    refine bodyPost_ret (v := .agg #[.int .i64 (a.tdiv b), .int .i64 (a.tmod b), .int .i64 b]) (by simp [results, Try.results113, go_sem]) rfl ⟨by rw [e1, e2], ?_⟩
    exact (((below_drewN (below_alloc _ _) _).setCell (by simp) _).setCell (by simp) _).setCell (by simp) _


theorem ediv_bound (a b : Int) (hb : 1 ≤ b) (k : Int) (h : -k ≤ a) (h' : a ≤ k) : -k ≤ a / b ∧ a / b ≤ k := by
  have hk : 0 ≤ k := by omega
  have h6 : 1 * k ≤ b * k := Int.mul_le_mul_of_nonneg_right hb hk
  constructor
  · exact Int.le_ediv_of_mul_le (by omega) (by rw [Int.neg_mul, Int.mul_comm]; omega)
  · have h7 : a < (k + 1) * b := by rw [Int.add_mul, Int.mul_comm]; omega
    have := Int.ediv_lt_of_lt_mul (by omega) h7
    omega


theorem round_q (a b m q : Int) (w : World) (ha : -1000000000000000000 ≤ a) (ha' : a ≤ 1000000000000000000) (hb : 1 ≤ b) (hb' : b ≤ 100000000) (hm : m = 1 ∨ m = 2 ∨ m = 3 ∨ m = 4)
    (hq : -1000000000000000000 ≤ q) (hq' : q ≤ 1000000000000000000) (h1 : q * b ≤ a) (h2 : a < q * b + b) (hs : a < 0 → q < 0) (hs' : 0 ≤ a → 0 ≤ q)
    (hfl : ∀ w, Calls Try.prog 103 #[.int .i64 a, .int .i64 b] w fun e w' => e = .returned (.int .i64 q) ∧ w' = w) :
    Calls Try.prog 66 #[.int .i64 a, .int .i64 b, .int .i64 m] w fun e w' => e = .returned (.int .i64 (rq q (a - q * b) b m)) ∧ w' = w := by
  have hal := and_one q
  have hpar : q % 2 = 0 ∨ q % 2 = 1 := by omega
  rcases hm with rfl | rfl | rfl | rfl
  all_goals
    go_enter Try.func66, Try.ntmps66
    go_wp2_with (go_at_call 103; refine (hfl _).mono ?_; rintro e w' ⟨rfl, rfl⟩)
  all_goals
    go_ret
    refine ⟨ret_int ?_, rfl⟩
    go_light
    clear hfl
    exact rq_of _ _ _ _ _ (by omega)

theorem round_any (a b m : Int) (w : World) (ha : -1000000000000000000 ≤ a) (ha' : a ≤ 1000000000000000000) (hb : 1 ≤ b) (hb' : b ≤ 100000000) (hm : m = 1 ∨ m = 2 ∨ m = 3 ∨ m = 4) :
    Calls Try.prog 66 #[.int .i64 a, .int .i64 b, .int .i64 m] w fun e w' => e = .returned (.int .i64 (rq (a / b) (a % b) b m)) ∧ w' = w := by
  have hdm := Int.emod_add_ediv_mul a b
  have hem := Int.emod_nonneg a (b := b) (by omega)
  have hem' := Int.emod_lt_of_pos a (b := b) (by omega)
  obtain ⟨e1, e2⟩ := ediv_bound a b hb 1000000000000000000 ha ha'
  have e : a % b = a - a / b * b := by omega
  rw [e]
  exact round_q a b m (a / b) w ha ha' hb hb' hm e1 e2 (by omega) (by omega) (fun h => Int.ediv_neg_of_neg_of_pos h (by omega)) (fun h => Int.ediv_nonneg h (by omega)) (fun w => floor_any a b w ha ha' hb hb')



theorem nearer_any (q r d : Int) (h : Bool) (w : World) (hr : 0 ≤ r) (hr' : r < d) (hd : d ≤ 100000000) :
    Calls Try.prog 134 #[.agg #[.int .i64 q, .int .i64 r, .int .i64 d], .bool h] w fun e w' => e = .returned (.bool (decide (d < 2 * r) || (decide (2 * r = d) && h))) ∧ Below w.heap.size w w' := by
  rcases (by omega : d < 2 * r ∨ 2 * r = d ∨ 2 * r < d) with hc | hc | hc
  · go_enter Try.func134, Try.ntmps134
    go_wp2
    go_ret
    exact ⟨ret_bool (by simp [hc]), below_alloc _ _⟩
  · subst hc
    go_enter Try.func134, Try.ntmps134
    go_wp2
    go_ret
    exact ⟨ret_bool (by simp), below_alloc _ _⟩
  · go_enter Try.func134, Try.ntmps134
    go_wp2
    go_ret
    exact ⟨ret_bool (by simp; omega), below_alloc _ _⟩

end Go.Proofs.Ytlkjpemhamemgaa
