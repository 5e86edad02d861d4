/-
  What the program's and the specification's loops over the rests have in common: pure facts on lists of numbers; nothing of the program is in them.
-/
import Derived.Test.YtaledfdhiimhdaaShareA
namespace Go.Proofs.Ytaledfdhiimhdaa
set_option linter.unusedVariables false

theorem fgTo_max (xs : List Int) : ∀ n, ∀ j, j < n → xs.getD j 0 ≤ xs.getD (fgTo xs n) 0 := by
  intro n
  induction n with
  | zero => intro j h; omega
  | succ n ih =>
    intro j h
    rw [fgTo_next]
    split
    · rename_i hc
      by_cases hj : j = n
      · subst hj; exact Int.le_refl _
      · have := ih j (by omega); omega
    · rename_i hc
      by_cases hj : j = n
      · subst hj; omega
      · exact ih j (by omega)
theorem fgTo_first (xs : List Int) : ∀ n, ∀ j, j < fgTo xs n → xs.getD j 0 < xs.getD (fgTo xs n) 0 := by
  intro n
  induction n with
  | zero => intro j h; exact absurd h (Nat.not_lt_zero _)
  | succ n ih =>
    intro j h
    rw [fgTo_next] at h ⊢
    split
    · rename_i hc
      rw [if_pos hc] at h
      have := fgTo_max xs n j h
      omega
    · rename_i hc
      rw [if_neg hc] at h
      exact ih j h
theorem fg_of {xs : List Int} {m : Nat} (hm : m < xs.length) (h1 : ∀ j, j < xs.length → xs.getD j 0 ≤ xs.getD m 0) (h2 : ∀ j, j < m → xs.getD j 0 < xs.getD m 0) : fg xs = m := by
  have hl := fg_lt xs (by omega)
  have a := fgTo_max xs xs.length m hm
  have b := h1 (fg xs) hl
  have a' : xs.getD m 0 ≤ xs.getD (fg xs) 0 := a
  rcases Nat.lt_trichotomy (fg xs) m with h | h | h
  · have := h2 _ h; omega
  · exact h
  · have := fgTo_first xs xs.length m h
    have h' : xs.getD m 0 < xs.getD (fg xs) 0 := this
    omega

/-- n steps: the part of the first greatest rest is raised, that rest becomes z. -/
def shl (z : Int) : Nat → List Int → List Int → List Int
  | 0, P, R => P
  | n + 1, P, R => shl z n (P.set (fg R) (P.getD (fg R) 0 + 1)) (R.set (fg R) z)

def Kin (R R' : List Int) : Prop := R'.length = R.length ∧ ∀ i, i < R.length → (R'.getD i 0 = R.getD i 0 ∧ 0 ≤ R.getD i 0) ∨ (R.getD i 0 = 0 ∧ R'.getD i 0 = -1)

theorem getD_set (l : List Int) (m j : Nat) (v : Int) (h : j < l.length) : (l.set m v).getD j 0 = if m = j then v else l.getD j 0 := by
  rw [List.getD_eq_getElem?_getD, List.getD_eq_getElem?_getD, List.getElem?_set]
  split
  · rename_i e; subst e; simp [h]
  · rfl
theorem sum_set (l : List Int) (m : Nat) (v : Int) (h : m < l.length) : (l.set m v).sum = l.sum - l.getD m 0 + v := by
  induction l generalizing m with
  | nil => simp at h
  | cons a l ih =>
    cases m with
    | zero => simp; omega
    | succ m =>
      have := ih m (by simpa using h)
      simp only [List.set_cons_succ, List.sum_cons, List.getD_cons_succ, this]; omega
theorem sum_pos (l : List Int) (h : 0 < l.sum) : ∃ j, j < l.length ∧ 0 < l.getD j 0 := by
  induction l with
  | nil => simp at h
  | cons a l ih =>
    by_cases ha : 0 < a
    · exact ⟨0, by simp, by simpa using ha⟩
    · rw [List.sum_cons] at h
      obtain ⟨j, h1, h2⟩ := ih (by omega)
      exact ⟨j + 1, by simpa using h1, by simpa using h2⟩

theorem shl_eq (S : Int) (hS : 0 < S) : ∀ (n : Nat) (P R R' : List Int), Kin R R' → (∀ i, i < R.length → R.getD i 0 < S) → (n : Int) * S ≤ R.sum → shl 0 n P R = shl (-1) n P R' := by
  intro n
  induction n with
  | zero => intro P R R' _ _ _; rfl
  | succ n ih =>
    intro P R R' hk hlt hs
    have e1 : ((n + 1 : Nat) : Int) * S = (n : Int) * S + S := by rw [Int.natCast_succ, Int.add_mul, Int.one_mul]
    rw [e1] at hs
    have hn : 0 ≤ (n : Int) * S := Int.mul_nonneg (by omega) (by omega)
    obtain ⟨j, hj, hp⟩ := sum_pos R (by omega)
    have hl := fg_lt R (by omega)
    have hmax := fgTo_max R R.length
    have hfirst := fgTo_first R R.length
    have hge : R.getD j 0 ≤ R.getD (fg R) 0 := hmax j hj
    obtain ⟨kl, kk⟩ := hk
    have hm : R'.getD (fg R) 0 = R.getD (fg R) 0 := by
      rcases kk (fg R) hl with h | h
      · exact h.1
      · omega
    have hle : ∀ i, i < R.length → R'.getD i 0 ≤ R.getD i 0 := fun i hi => by rcases kk i hi with h | h <;> omega
    have hfg : fg R' = fg R := by
      refine fg_of (by omega) (fun i hi => ?_) (fun i hi => ?_)
      · rw [hm]; have a : R.getD i 0 ≤ R.getD (fg R) 0 := hmax i (by omega); have := hle i (by omega); omega
      · rw [hm]; have a : R.getD i 0 < R.getD (fg R) 0 := hfirst i hi; have := hle i (by omega); omega
    unfold shl
    rw [hfg]
    refine ih _ _ _ ⟨by simp [kl], fun i hi => ?_⟩ (fun i hi => ?_) ?_
    · rw [List.length_set] at hi
      rw [getD_set _ _ _ _ hi, getD_set _ _ _ _ (by omega)]
      split
      · exact Or.inr ⟨rfl, rfl⟩
      · exact kk i hi
    · rw [List.length_set] at hi
      rw [getD_set _ _ _ _ hi]
      split
      · exact hS
      · exact hlt i hi
    · rw [sum_set _ _ _ hl]
      have := hlt (fg R) hl
      omega
end Go.Proofs.Ytaledfdhiimhdaa
