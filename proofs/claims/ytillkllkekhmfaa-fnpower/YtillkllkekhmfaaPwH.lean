/-
  The power of volts with themselves: no second part, a first part that is not below 0; what is told is no nought of numbers.
-/
import Derived.Test.YtillkllkekhmfaaPwG
namespace Go.Proofs.Ytillkllkekhmfaa
open Go.ChangeShapes Go.WideShapes Go.ChangeAt Go.RowKit Go.Joins Go.Deep
set_option linter.unusedVariables false
open Ieee

theorem fin_eq {L x : Nat} (h : FinW (FloatKind.format .f64) L x) : eqF x x = true := by
  obtain ⟨a, h1, _⟩ := fin_some (FloatKind.format .f64) h
  rw [eq_self]
  unfold msF kF
  rw [h1]
  rfl
theorem nonneg_lt {x : Nat} (h : NonNeg (FloatKind.format .f64) x) : ltF x 0 = false := by
  have h0 : kF 0 = some 0 := by decide +kernel
  unfold ltF
  rw [h0]
  rcases h with ⟨m, i, h⟩ | h
  · have hk : kF x = some (signed false m (i - (FloatKind.format .f64).leastPlace).toNat) := by unfold kF keyW; rw [h]; rfl
    rw [hk]
    refine decide_eq_false ?_
    unfold signed
    rw [if_neg (by simp)]
    have := Int.natCast_nonneg (m <<< (i - (FloatKind.format .f64).leastPlace).toNat)
    omega
  · have hk : kF x = some (bigF (FloatKind.format .f64) : Int) := by unfold kF keyW; rw [h]; rfl
    rw [hk]
    exact decide_eq_false (by have := Int.natCast_nonneg (bigF (FloatKind.format .f64)); omega)
theorem sub_nonneg {f : Format} (he : 1 ≤ f.exponentBits) {x y m n : Nat} {t : Bool} {i j : Int} (hx : f.read x = .number false m i) (hy : f.read y = .number t n j) (ht : n ≠ 0 → t = true) : ∃ r, f.sub x y = some r ∧ NonNeg f r := by
  unfold Format.sub
  rw [hx, hy]
  refine ⟨_, rfl, ?_⟩
  show NonNeg f (f.nearest _ _ _)
  have h1 : ∀ (m k : Nat), (0 : Int) ≤ signed false m k := fun m k => by unfold signed; rw [if_neg (by simp)]; exact Int.natCast_nonneg _
  have h2 := h1 m (i - min i j).toNat
  have h3 : (0 : Int) ≤ signed (!t) n (j - min i j).toNat := by
    by_cases hn : n = 0
    · rw [hn]; unfold signed; rw [Nat.zero_shiftLeft]; cases t <;> simp
    · rw [ht hn]; exact h1 _ _
  have e : (if signed false m (i - min i j).toNat + signed (!t) n (j - min i j).toNat = 0 then false && !t else decide (signed false m (i - min i j).toNat + signed (!t) n (j - min i j).toNat < 0)) = false := by
    split
    · rfl
    · exact decide_eq_false (by omega)
  rw [e]
  exact near_nonneg f he _ _
theorem own_re {x y : Nat} (hx : FinW (FloatKind.format .f64) 1094 x) (hy : FinW (FloatKind.format .f64) 1094 y) : NonNeg (FloatKind.format .f64) (prR x y x (negF y)) := by
  obtain ⟨a, m1, i1, a1, a2, _⟩ := sq_num (FloatKind.format .f64) (M := 1114) (by decide) (by decide) (by rw [lp64]; omega) hx
  obtain ⟨b, m2, i2, b1, b2, _⟩ := sq_num (FloatKind.format .f64) (M := 1114) (by decide) (by decide) (by rw [lp64]; omega) hy
  have ea : fmul x x = a := by unfold fmul; rw [show floatBits .mul .f64 x x = some a from a1]; rfl
  have eb : fmul y y = b := by unfold fmul; rw [show floatBits .mul .f64 y y = some b from b1]; rfl
  obtain ⟨s, t, m, i, c1, c2, c3⟩ := (fmul_neg hy hy).1
  rw [eb, b2] at c2
  injection c2 with d1 d2 d3
  obtain ⟨r, e1, e2⟩ := sub_nonneg (f := FloatKind.format .f64) (by decide) a2 c1 (fun hm => by
    have := c3 hm
    rw [← d1] at this
    cases s
    · cases this
    · rfl)
  unfold prR
  rw [ea]
  have e3 : fsub a (fmul y (negF y)) = r := by unfold fsub; rw [show floatBits .sub .f64 a (fmul y (negF y)) = some r from e1]; rfl
  rw [e3]
  exact e2
theorem own_po {vs : List RPw} (hv : pwsB vs = true) : ∀ k, k ≤ vs.length → k ≤ 12 → NonNeg (FloatKind.format .f64) (poT vs vs k).1
  | 0, _, _ => by
    have hz : (FloatKind.format .f64).read 0 = .number false 0 (FloatKind.format .f64).leastPlace := by decide +kernel
    exact .inl ⟨_, _, hz⟩
  | k + 1, h1, h2 => by
    obtain ⟨q1, q2, _, _⟩ := po_pr hv hv (k := k) (by omega) (by omega)
    obtain ⟨r, e1, e2⟩ := add_nonneg (FloatKind.format .f64) (by decide) (own_po hv k (by omega) (by omega)) (own_re q1 q2)
    have e3 : (poT vs vs (k + 1)).1 = r := by show fadd _ _ = r; unfold fadd; rw [show floatBits .add .f64 _ _ = some r from e1]; rfl
    rw [e3]
    exact e2
theorem own_im {vs : List RPw} (hv : pwsB vs = true) (k : Nat) (h1 : k ≤ vs.length) (h2 : k ≤ 12) : eqF (poT vs vs k).2 0 = true := by
  have h := opp_self _ (po_swap hv hv rfl k h1 h2).2
  have h0 : kF 0 = some 0 := by decide +kernel
  unfold eqF
  rw [h0, show kF (poT vs vs k).2 = some 0 from h]
  rfl
theorem swap_im {x y : Nat} (h : Op64 x y) : eqF x (negF y) = true := by
  obtain ⟨a, h1, h2⟩ := opp_key _ h
  unfold eqF
  rw [show kF x = some a from h1, show kF (negF y) = some a from h2]
  simp
/-- What a bridge tells are numbers. -/
theorem brA_num (rs : List RPw) : eqF (brA rs).1 (brA rs).1 = true ∧ eqF (brA rs).2 (brA rs).2 = true := by
  unfold brA
  have h0 : eqF 0 0 = true := by decide +kernel
  split
  · rename_i h
    unfold brC at h
    split at h
    · cases h
    · split at h
      · rename_i h2
        split at h
        · rename_i h3
          obtain ⟨l1, l2⟩ := pwR_right h2
          obtain ⟨f1, f2⟩ := brT_fin l2 rs.length (Nat.le_refl _) l1 (by rw [List.take_of_length_le (Nat.le_refl _)]; exact h3)
          exact ⟨fin_eq f1, fin_eq f2⟩
        · cases h
      · cases h
  · exact ⟨h0, h0⟩
end Go.Proofs.Ytillkllkekhmfaa
