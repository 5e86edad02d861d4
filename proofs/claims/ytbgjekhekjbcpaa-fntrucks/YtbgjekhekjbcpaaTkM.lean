/-
  Trucks that are filled, as mathematics; nothing of the program is in it.
-/
import Derived.Test.YtbgjekhekjbcpaaLists0
namespace Go.Proofs.Ytbgjekhekjbcpaa
open Go.ChangeShapes Go.WideShapes Go.ChangeAt Go.RowKit Go.Joins Go.Deep
set_option linter.unusedVariables false

/-- One load after another has one more, where there is room: what the first k steps leave. -/
def stp (lim cur : List Int) (r : Nat) : Nat → List Int × Nat
  | 0 => (cur, r)
  | k + 1 => if 0 < (stp lim cur r k).2 ∧ (stp lim cur r k).1.getD k 0 < lim.getD k 0 then ((stp lim cur r k).1.set k ((stp lim cur r k).1.getD k 0 + 1), (stp lim cur r k).2 - 1) else stp lim cur r k
def rnd (lim cur : List Int) (r : Nat) : List Int × Nat := stp lim cur r cur.length
def fil (lim : List Int) : Nat → List Int → Nat → List Int
  | 0, cur, _ => cur
  | n + 1, cur, r => if (rnd lim cur r).2 = r then cur else fil lim n (rnd lim cur r).1 (rnd lim cur r).2
/-- The first k numbers together. -/
def pS (L : List Int) : Nat → Int
  | 0 => 0
  | k + 1 => pS L k + L.getD k 0
theorem stp_yes {lim cur : List Int} {r k : Nat} (h0 : 0 < (stp lim cur r k).2) (h1 : (stp lim cur r k).1.getD k 0 < lim.getD k 0) : stp lim cur r (k + 1) = ((stp lim cur r k).1.set k ((stp lim cur r k).1.getD k 0 + 1), (stp lim cur r k).2 - 1) := by
  rw [stp, if_pos ⟨h0, h1⟩]
theorem stp_no {lim cur : List Int} {r k : Nat} (h : ¬ (0 < (stp lim cur r k).2 ∧ (stp lim cur r k).1.getD k 0 < lim.getD k 0)) : stp lim cur r (k + 1) = stp lim cur r k := by
  rw [stp, if_neg h]
theorem stp_len (lim cur : List Int) (r : Nat) : ∀ k, (stp lim cur r k).1.length = cur.length
  | 0 => rfl
  | k + 1 => by
    rw [stp]
    split
    · rw [List.length_set]; exact stp_len lim cur r k
    · exact stp_len lim cur r k
theorem stp_le (lim cur : List Int) (r : Nat) : ∀ k, (stp lim cur r k).2 ≤ r
  | 0 => Nat.le_refl _
  | k + 1 => by
    have := stp_le lim cur r k
    rw [stp]
    split
    · dsimp only; omega
    · exact this
/-- Where nothing is left nothing turns. -/
theorem stp_zero {lim cur : List Int} {r k : Nat} (h : (stp lim cur r k).2 = 0) : ∀ j, stp lim cur r (k + j) = stp lim cur r k
  | 0 => rfl
  | j + 1 => by
    have ih := stp_zero h j
    have : stp lim cur r (k + j + 1) = stp lim cur r (k + j) := stp_no (by rw [ih]; omega)
    rw [← Nat.add_assoc, this, ih]
/-- Where no step took any, nothing has turned. -/
theorem stp_same {lim cur : List Int} {r : Nat} : ∀ {k}, (stp lim cur r k).2 = r → (stp lim cur r k).1 = cur
  | 0, _ => rfl
  | k + 1, h => by
    have h1 := stp_le lim cur r k
    by_cases hc : 0 < (stp lim cur r k).2 ∧ (stp lim cur r k).1.getD k 0 < lim.getD k 0
    · rw [stp_yes hc.1 hc.2] at h
      dsimp only at h
      omega
    · rw [stp_no hc] at h ⊢
      exact stp_same h
theorem getD_set (L : List Int) (k i : Nat) (x : Int) (hk : k < L.length) : (L.set k x).getD i 0 = if i = k then x else L.getD i 0 := by
  rw [List.getD_eq_getElem?_getD, List.getD_eq_getElem?_getD, List.getElem?_set]
  by_cases e : i = k
  · subst e; simp [hk]
  · rw [if_neg (fun h => e h.symm), if_neg e]
theorem stp_far (lim cur : List Int) (r : Nat) : ∀ k i, k ≤ i → (stp lim cur r k).1.getD i 0 = cur.getD i 0
  | 0, _, _ => rfl
  | k + 1, i, h => by
    have ih := stp_far lim cur r k i (by omega)
    rw [stp]
    split
    · dsimp only
      rw [List.getD_eq_getElem?_getD, List.getElem?_set, if_neg (by omega), ← List.getD_eq_getElem?_getD]
      exact ih
    · exact ih
/-- Each is as it was, or one more where it was below its limit. -/
theorem stp_each (lim cur : List Int) (r : Nat) : ∀ k, k ≤ cur.length → ∀ i, (stp lim cur r k).1.getD i 0 = cur.getD i 0 ∨ ((stp lim cur r k).1.getD i 0 = cur.getD i 0 + 1 ∧ cur.getD i 0 < lim.getD i 0)
  | 0, _, _ => .inl rfl
  | k + 1, hk, i => by
    by_cases hc : 0 < (stp lim cur r k).2 ∧ (stp lim cur r k).1.getD k 0 < lim.getD k 0
    · rw [stp_yes hc.1 hc.2]
      dsimp only
      rw [getD_set _ _ _ _ (by rw [stp_len]; omega)]
      have hf := stp_far lim cur r k k (Nat.le_refl _)
      split
      · next e => subst e; rw [hf] at hc ⊢; exact .inr ⟨rfl, hc.2⟩
      · exact stp_each lim cur r k (by omega) i
    · rw [stp_no hc]; exact stp_each lim cur r k (by omega) i
/-- While some is left all that could have one more have. -/
theorem stp_all (lim cur : List Int) (r : Nat) : ∀ k, k ≤ cur.length → 0 < (stp lim cur r k).2 → ∀ i, i < k → (stp lim cur r k).1.getD i 0 = if cur.getD i 0 < lim.getD i 0 then cur.getD i 0 + 1 else cur.getD i 0
  | k + 1, hk, h, i, hi => by
    have hf := stp_far lim cur r k k (Nat.le_refl _)
    by_cases hc : 0 < (stp lim cur r k).2 ∧ (stp lim cur r k).1.getD k 0 < lim.getD k 0
    · rw [stp_yes hc.1 hc.2]
      dsimp only
      rw [getD_set _ _ _ _ (by rw [stp_len]; omega)]
      split
      · next e => subst e; rw [hf] at hc ⊢; rw [if_pos hc.2]
      · exact stp_all lim cur r k (by omega) hc.1 i (by omega)
    · rw [stp_no hc] at h ⊢
      by_cases e : i = k
      · subst e
        rw [hf, if_neg (fun q => hc ⟨h, by rw [hf]; exact q⟩)]
      · exact stp_all lim cur r k (by omega) h i (by omega)
theorem stp_none {lim cur : List Int} {r k : Nat} (hk : k ≤ cur.length) (h0 : 0 < r) (h : (stp lim cur r k).2 = r) : ∀ i, i < k → ¬ cur.getD i 0 < lim.getD i 0 := fun i hi hc => by
  have h1 := stp_all lim cur r k hk (by omega) i hi
  rw [stp_same h, if_pos hc] at h1
  omega
theorem pS_set (L : List Int) (j : Nat) (x : Int) (hj : j < L.length) : ∀ k, pS (L.set j x) k = pS L k + if j < k then x - L.getD j 0 else 0
  | 0 => by simp [pS]
  | k + 1 => by
    rw [pS, pS, pS_set L j x hj k, getD_set _ _ _ _ hj]
    by_cases e : k = j
    · subst e; rw [if_neg (by omega), if_pos rfl, if_pos (by omega)]; omega
    · rw [if_neg e]
      by_cases h : j < k
      · rw [if_pos h, if_pos (by omega)]; omega
      · rw [if_neg h, if_neg (by omega)]; omega
/-- What is left and what there is, together, stays. -/
theorem stp_sum (lim cur : List Int) (r : Nat) : ∀ k, k ≤ cur.length → pS (stp lim cur r k).1 cur.length + ((stp lim cur r k).2 : Int) = pS cur cur.length + (r : Int)
  | 0, _ => rfl
  | k + 1, hk => by
    have ih := stp_sum lim cur r k (by omega)
    by_cases hc : 0 < (stp lim cur r k).2 ∧ (stp lim cur r k).1.getD k 0 < lim.getD k 0
    · rw [stp_yes hc.1 hc.2]
      dsimp only
      rw [pS_set _ _ _ (by rw [stp_len]; omega), if_pos (by omega)]
      omega
    · rw [stp_no hc]; exact ih
theorem rnd_zero (lim cur : List Int) : rnd lim cur 0 = (cur, 0) := by
  have h : (stp lim cur 0 0).2 = 0 := rfl
  have := stp_zero h cur.length
  rw [Nat.zero_add] at this
  exact this
theorem fil_zero (lim cur : List Int) : ∀ n, fil lim n cur 0 = cur
  | 0 => rfl
  | n + 1 => by rw [fil, rnd_zero, if_pos rfl]
/-- More rounds than room do not matter. -/
theorem fil_more (lim : List Int) : ∀ n m cur r, r < n → r < m → fil lim n cur r = fil lim m cur r
  | n + 1, m + 1, cur, r, h1, h2 => by
    rw [fil, fil]
    split
    · rfl
    · next h =>
      have := stp_le lim cur r cur.length
      have h' : (rnd lim cur r).2 ≤ r := this
      exact fil_more lim n m _ _ (by omega) (by omega)
theorem fil_stop {lim cur : List Int} {r : Nat} (h : (rnd lim cur r).2 = r) : fil lim (r + 1) cur r = cur ∧ (rnd lim cur r).1 = cur := by
  rw [fil, if_pos h]; exact ⟨rfl, stp_same h⟩
theorem fil_step {lim cur : List Int} {r : Nat} (h : (rnd lim cur r).2 ≠ r) : fil lim (r + 1) cur r = fil lim ((rnd lim cur r).2 + 1) (rnd lim cur r).1 (rnd lim cur r).2 := by
  have h' : (rnd lim cur r).2 ≤ r := stp_le lim cur r cur.length
  rw [fil, if_neg h]
  exact fil_more lim _ _ _ _ (by omega) (by omega)
theorem fil_len (lim : List Int) : ∀ n cur r, (fil lim n cur r).length = cur.length
  | 0, _, _ => rfl
  | n + 1, cur, r => by
    rw [fil]
    split
    · rfl
    · rw [fil_len lim n]; exact stp_len _ _ _ _
/-- What the filling comes to: each load has its pallets and about as many more as every other, and either there is no room left or no load could have more. -/
theorem fil_fin (P E lim : List Int) (N : Nat) (hlim : ∀ i, i < N → lim.getD i 0 = P.getD i 0 + E.getD i 0) : ∀ m cur r (t : Int), 0 ≤ t → r < m → cur.length = N → (∀ i, i < N → cur.getD i 0 = P.getD i 0 + min t (E.getD i 0)) →
    ∃ (t' : Int) (r' : Nat), 0 ≤ t' ∧ (∀ i, i < N → (fil lim m cur r).getD i 0 = P.getD i 0 + min t' (E.getD i 0) ∨ (fil lim m cur r).getD i 0 = P.getD i 0 + min (t' + 1) (E.getD i 0)) ∧ pS (fil lim m cur r) N + (r' : Int) = pS cur N + (r : Int) ∧ (r' = 0 ∨ ∀ i, i < N → ¬ (fil lim m cur r).getD i 0 < lim.getD i 0)
  | m + 1, cur, r, t, ht, hr, hl, hq => by
    by_cases hs : (rnd lim cur r).2 = r
    · have e : fil lim (m + 1) cur r = cur := by rw [fil, if_pos hs]
      rw [e]
      refine ⟨t, r, ht, fun i hi => .inl (hq i hi), rfl, ?_⟩
      by_cases h0 : r = 0
      · exact .inl h0
      · exact .inr (fun i hi => stp_none (Nat.le_refl _) (by omega) hs i (by omega))
    · have e : fil lim (m + 1) cur r = fil lim m (rnd lim cur r).1 (rnd lim cur r).2 := by rw [fil, if_neg hs]
      have hle : (rnd lim cur r).2 ≤ r := stp_le lim cur r cur.length
      have hlen : (rnd lim cur r).1.length = N := (stp_len lim cur r _).trans hl
      have hsum : pS (rnd lim cur r).1 N + ((rnd lim cur r).2 : Int) = pS cur N + (r : Int) := by
        have := stp_sum lim cur r cur.length (Nat.le_refl _)
        rw [hl] at this
        unfold rnd
        rw [hl]
        exact this
      have heach : ∀ i, (rnd lim cur r).1.getD i 0 = cur.getD i 0 ∨ ((rnd lim cur r).1.getD i 0 = cur.getD i 0 + 1 ∧ cur.getD i 0 < lim.getD i 0) := stp_each lim cur r cur.length (Nat.le_refl _)
      have hall : 0 < (rnd lim cur r).2 → ∀ i, i < cur.length → (rnd lim cur r).1.getD i 0 = if cur.getD i 0 < lim.getD i 0 then cur.getD i 0 + 1 else cur.getD i 0 := stp_all lim cur r cur.length (Nat.le_refl _)
      rw [e]
      generalize rnd lim cur r = p at *
      by_cases h0 : p.2 = 0
      · rw [h0, fil_zero]
        refine ⟨t, 0, ht, fun i hi => ?_, by rw [h0] at hsum; exact hsum, .inl rfl⟩
        have h1 := hq i hi
        have h2 := hlim i hi
        rcases heach i with h | ⟨h, h3⟩
        · exact .inl (by rw [h]; exact h1)
        · exact .inr (by omega)
      · obtain ⟨t', r', ht', g1, g2, g3⟩ := fil_fin P E lim N hlim m p.1 p.2 (t + 1) (by omega) (by omega) hlen (fun i hi => by
          have h1 := hq i hi
          have h2 := hlim i hi
          rw [hall (by omega) i (by omega)]
          split <;> omega)
        exact ⟨t', r', ht', g1, g2.trans hsum, g3⟩
end Go.Proofs.Ytbgjekhekjbcpaa
