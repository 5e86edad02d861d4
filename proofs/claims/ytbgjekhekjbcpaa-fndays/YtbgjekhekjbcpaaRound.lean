/-
  Contracts of the functions of chapter 2 that round a quotient (the specification's l01Floor and l01Round; the program's divide, nearerUp, rounded and the table of its modes), each for every argument within the bounds that its callers keep.
-/
import Derived.Test.YtbgjekhekjbcpaaRate
import Derived.BigQuiet
import Derived.Deep.QuietTactic
import Derived.WalkLawsBesides
import Derived.Laws.EntriesVeiled
import Derived.Laws.Bits128
import Derived.Deep.Light
namespace Go.Proofs.Ytbgjekhekjbcpaa
open Go.ChangeShapes Go.WideShapes Go.ChangeAt Go.RowKit
set_option linter.unusedVariables false

theorem and_one (n : Int) : bits .and .i64 n 1 = n % 2 := by
  have h1 : (BitVec.ofInt 64 1).toNat = 2 ^ 1 - 1 := by decide
  have key : (BitVec.ofInt 64 n &&& BitVec.ofInt 64 1).toNat = (n % ((2 ^ 64 : Nat) : Int)).toNat % 2 ^ 1 := by
    rw [BitVec.toNat_and, BitVec.toNat_ofInt, h1, Nat.and_two_pow_sub_one_eq_mod]
  show IntKind.i64.wrap ((BitVec.ofInt 64 n &&& BitVec.ofInt 64 1).toNat : Nat) = n % 2
  rw [key, IntKind.wrap_i64]
  omega

theorem tmod_gt (a : Int) {b : Int} (hb : 0 < b) : -b < a.tmod b := by
  have h := Int.tmod_lt_of_pos (-a) hb
  rw [Int.neg_tmod] at h
  omega

/-- Goes a quotient of floor q, rest r over d up, by mode m? -/
def upB (q r d m : Int) : Bool := decide ((m = 2 ∧ 0 < r) ∨ (m = 3 ∧ (d < 2 * r ∨ (2 * r = d ∧ q % 2 = 1))) ∨ (m = 4 ∧ (d < 2 * r ∨ (2 * r = d ∧ 0 ≤ q))))
def rq (q r d m : Int) : Int := if upB q r d m = true then q + 1 else q

theorem rq_of (x q r d m : Int) (h : (((m = 2 ∧ 0 < r) ∨ (m = 3 ∧ (d < 2 * r ∨ (2 * r = d ∧ q % 2 = 1))) ∨ (m = 4 ∧ (d < 2 * r ∨ (2 * r = d ∧ 0 ≤ q)))) ∧ x = q + 1) ∨
    (¬ ((m = 2 ∧ 0 < r) ∨ (m = 3 ∧ (d < 2 * r ∨ (2 * r = d ∧ q % 2 = 1))) ∨ (m = 4 ∧ (d < 2 * r ∨ (2 * r = d ∧ 0 ≤ q)))) ∧ x = q)) : x = rq q r d m := by
  unfold rq upB
  simp only [decide_eq_true_eq]
  rcases h with ⟨h, e⟩ | ⟨h, e⟩
  · rw [if_pos h, e]
  · rw [if_neg h, e]

theorem tdiv_facts (a b : Int) (hb : 1 ≤ b) : (0 ≤ a.tmod b → a.tdiv b = a / b ∧ a.tmod b = a % b) ∧ (a.tmod b < 0 → a.tdiv b - 1 = a / b ∧ a.tmod b + b = a % b) := by
  have h1 := Int.tmod_add_mul_tdiv a b
  have h2 := Int.tmod_lt_of_pos a (b := b) (by omega)
  have h3 := tmod_gt a (b := b) (by omega)
  constructor
  · intro h
    have := (Int.ediv_emod_unique (a := a) (b := b) (q := a.tdiv b) (r := a.tmod b) (by omega)).mpr ⟨h1, h, h2⟩
    exact ⟨this.1.symm, this.2.symm⟩
  · intro h
    have e : a.tmod b + b + b * (a.tdiv b - 1) = a := by rw [Int.mul_sub]; omega
    have := (Int.ediv_emod_unique (a := a) (b := b) (q := a.tdiv b - 1) (r := a.tmod b + b) (by omega)).mpr ⟨e, by omega, by omega⟩
    exact ⟨this.1.symm, this.2.symm⟩

theorem tdiv_bound (a b : Int) (hb : 1 ≤ b) (k : Int) (h : -k ≤ a) (h' : a ≤ k) : -k ≤ a.tdiv b ∧ a.tdiv b ≤ k := by
  have h1 := Int.tmod_add_mul_tdiv a b
  have h2 := Int.tmod_lt_of_pos a (b := b) (by omega)
  have h3 := tmod_gt a (b := b) (by omega)
  have hk : 0 ≤ k := by omega
  constructor
  · by_cases hc : -k ≤ a.tdiv b
    · exact hc
    · have : b * a.tdiv b ≤ b * (-k - 1) := Int.mul_le_mul_of_nonneg_left (by omega) (by omega)
      have h5 : b * (-k - 1) = -(b * k) - b := by rw [Int.mul_sub, Int.mul_neg]; omega
      have h6 : 1 * k ≤ b * k := Int.mul_le_mul_of_nonneg_right hb hk
      omega
  · by_cases hc : a.tdiv b ≤ k
    · exact hc
    · have : b * (k + 1) ≤ b * a.tdiv b := Int.mul_le_mul_of_nonneg_left (by omega) (by omega)
      have h5 : b * (k + 1) = b * k + b := by rw [Int.mul_add]; omega
      have h6 : 1 * k ≤ b * k := Int.mul_le_mul_of_nonneg_right hb hk
      omega

theorem tmod_bound (a b : Int) (hb : 1 ≤ b) : -b < a.tmod b ∧ a.tmod b < b :=
  ⟨tmod_gt a (by omega), Int.tmod_lt_of_pos a (by omega)⟩



theorem ediv_bound (a b : Int) (hb : 1 ≤ b) (k : Int) (h : -k ≤ a) (h' : a ≤ k) : -k ≤ a / b ∧ a / b ≤ k := by
  have hk : 0 ≤ k := by omega
  have h6 : 1 * k ≤ b * k := Int.mul_le_mul_of_nonneg_right hb hk
  constructor
  · exact Int.le_ediv_of_mul_le (by omega) (by rw [Int.neg_mul, Int.mul_comm]; omega)
  · have h7 : a < (k + 1) * b := by rw [Int.add_mul, Int.mul_comm]; omega
    have := Int.ediv_lt_of_lt_mul (by omega) h7
    omega



end Go.Proofs.Ytbgjekhekjbcpaa
