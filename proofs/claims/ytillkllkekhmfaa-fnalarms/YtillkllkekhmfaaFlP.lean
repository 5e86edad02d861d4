/-
  Products, quotients and negatives of numbers: how great and how small they can be.
-/
import Derived.Test.YtillkllkekhmfaaFlA
namespace Go.Proofs.Ytillkllkekhmfaa
open Go.ChangeShapes Go.WideShapes Go.ChangeAt Go.RowKit Go.Joins Go.Deep
set_option linter.unusedVariables false
open Ieee

section
variable (f : Format)
theorem read_neg (x : Nat) : f.read (x ^^^ f.signWeight) = (f.read x).opposite := by
  have hw : f.signWeight = 2 ^ (f.exponentBits + f.fractionBits) := rfl
  have h1 : (x ^^^ f.signWeight) % f.signWeight = x % f.signWeight := by
    rw [hw, Nat.xor_mod_two_pow, Nat.mod_self, Nat.xor_zero]
  have h2 : ((x ^^^ f.signWeight) / f.signWeight % 2 == 1) = !(x / f.signWeight % 2 == 1) := by
    rw [hw]
    have e1 : ∀ y : Nat, y / 2 ^ (f.exponentBits + f.fractionBits) % 2 = (y.testBit (f.exponentBits + f.fractionBits)).toNat := fun y => by
      rw [Nat.testBit_eq_decide_div_mod_eq]
      rcases Nat.mod_two_eq_zero_or_one (y / 2 ^ (f.exponentBits + f.fractionBits)) with h | h <;> rw [h] <;> rfl
    rw [e1, e1, Nat.testBit_xor, Nat.testBit_two_pow_self]
    cases x.testBit (f.exponentBits + f.fractionBits) <;> rfl
  unfold Format.read
  dsimp only
  rw [h1, h2]
  split
  · rfl
  · split
    · rfl
    · split <;> rfl
theorem fin_neg {L x : Nat} (h : FinW f L x) : FinW f L (x ^^^ f.signWeight) := by
  obtain ⟨s, m, i, h1, h2⟩ := h
  exact ⟨!s, m, i, by rw [read_neg, h1]; rfl, h2⟩
theorem log_mul {m n : Nat} (hm : m ≠ 0) (hn : n ≠ 0) : m.log2 + n.log2 ≤ (m * n).log2 ∧ (m * n).log2 ≤ m.log2 + n.log2 + 1 := by
  have h0 : m * n ≠ 0 := Nat.mul_ne_zero hm hn
  refine ⟨(Nat.le_log2 h0).2 ?_, ?_⟩
  · rw [Nat.pow_add]
    exact Nat.mul_le_mul (Nat.log2_self_le hm) (Nat.log2_self_le hn)
  · have : (m * n).log2 < m.log2 + n.log2 + 2 := (Nat.log2_lt h0).2 (by
      rw [show m.log2 + n.log2 + 2 = (m.log2 + 1) + (n.log2 + 1) by omega, Nat.pow_add]
      exact Nat.mul_lt_mul'' Nat.lt_log2_self Nat.lt_log2_self)
    omega
theorem mul_fin {L M x y : Nat} (hM : f.fractionBits + 1 ≤ M) (hE : M + 2 < 2 ^ f.exponentBits + f.fractionBits) (hL : (2 * L : Nat) + f.leastPlace ≤ M) (hx : FinW f L x) (hy : FinW f L y) : ∃ r, f.mul x y = some r ∧ FinW f (M + 1) r := by
  obtain ⟨s, m, i, h1, h2⟩ := hx
  obtain ⟨t, n, j, h3, h4⟩ := hy
  have hi := (read_number f h1).1
  have hj := (read_number f h3).1
  have hlog : m * n = 0 ∨ (i + j) + (m * n).log2 < (M : Nat) + f.leastPlace := by
    by_cases h0 : m * n = 0
    · exact .inl h0
    · right
      have hm : m ≠ 0 := fun e => h0 (by rw [e, Nat.zero_mul])
      have hn : n ≠ 0 := fun e => h0 (by rw [e, Nat.mul_zero])
      have h5 := log_le hm h2
      have h6 := log_le hn h4
      have h7 := (log_mul hm hn).2
      omega
  obtain ⟨m', i', h7, h8⟩ := near_fin f (s ^^ t) (m * n) (i + j) M hM hE hlog
  exact ⟨_, by unfold Format.mul; rw [h1, h3]; rfl, _, m', i', h7, h8⟩
/-- What is at least 2 ^ K steps is rounded to no less. -/
theorem near_low (neg : Bool) (m : Nat) (p : Int) (L K : Nat) (hK : f.fractionBits ≤ K) (hL : f.fractionBits + 1 ≤ L) (hE : L + 2 < 2 ^ f.exponentBits + f.fractionBits) (h0 : m ≠ 0) (h : p + m.log2 < L + f.leastPlace) (hk : (K : Nat) + f.leastPlace ≤ p + m.log2) :
    ∃ m' i, f.read (f.nearest neg m p) = .number neg m' i ∧ m' * 2 ^ (i - f.leastPlace).toNat < 2 ^ (L + 1) ∧ 2 ^ K ≤ m' * 2 ^ (i - f.leastPlace).toNat := by
  obtain ⟨m', i, h1, h2⟩ := near_fin f neg m p L hL hE (.inr h)
  refine ⟨m', i, h1, h2, ?_⟩
  have hb : f.binade = 2 ^ f.fractionBits := rfl
  have hp : 0 < 2 ^ f.fractionBits := Nat.two_pow_pos _
  unfold Format.nearest at h1
  rw [if_neg h0] at h1
  obtain ⟨last, hl⟩ : ∃ last, last = max (p + m.log2 - f.fractionBits) f.leastPlace := ⟨_, rfl⟩
  dsimp only at h1
  rw [← hl] at h1
  have hl2 : last = p + m.log2 - f.fractionBits := by omega
  have hkept : 2 ^ f.fractionBits ≤ Toward.even.cut neg (m <<< (p - last).toNat) (last - p).toNat := by
    unfold Toward.cut
    dsimp only
    refine Nat.le_trans ?_ (Nat.le_add_right _ _)
    have hml := Nat.log2_self_le h0
    rw [Nat.shiftLeft_eq, Nat.shiftLeft_eq, Nat.one_mul]
    by_cases hd : last ≤ p
    · have e : (last - p).toNat = 0 := by omega
      rw [e, Nat.zero_min, Nat.pow_zero, Nat.div_one]
      calc 2 ^ f.fractionBits = 2 ^ (m.log2 + (p - last).toNat) := by congr 1; omega
        _ = 2 ^ m.log2 * 2 ^ (p - last).toNat := Nat.pow_add _ _ _
        _ ≤ _ := Nat.mul_le_mul_right _ hml
    · have e : (p - last).toNat = 0 := by omega
      rw [e, Nat.pow_zero, Nat.mul_one]
      have hlm : (last - p).toNat + f.fractionBits = m.log2 := by omega
      have e2 : min (last - p).toNat (m.log2 + 2) = (last - p).toNat := Nat.min_eq_left (by omega)
      rw [e2]
      refine (Nat.le_div_iff_mul_le (Nat.two_pow_pos _)).2 ?_
      rw [← Nat.pow_add, show f.fractionBits + (last - p).toNat = m.log2 by omega]
      exact hml
  generalize Toward.even.cut neg (m <<< (p - last).toNat) (last - p).toNat = kept at *
  obtain ⟨r, hr⟩ : ∃ r, r = (last - f.leastPlace).toNat * f.binade + kept := ⟨_, rfl⟩
  rw [← hr] at h1
  have hr2 : (last - f.leastPlace).toNat + 1 ≤ r / f.binade := by
    rw [hr, hb]
    refine (Nat.le_div_iff_mul_le hp).2 ?_
    rw [Nat.add_mul, Nat.one_mul]
    omega
  by_cases hi : r < f.infRung
  · rw [Nat.min_eq_left (by omega)] at h1
    have hn1 : ¬ r < f.binade := fun h => by rw [Nat.div_eq_of_lt h] at hr2; omega
    obtain ⟨m2, i2, h3, _⟩ := read_word f (neg := neg) hi
    have h4 : f.read (f.word neg r) = .number neg (f.binade + r % f.binade) (f.leastPlace + ((r / f.binade - 1 : Nat) : Int)) := by
      have h5 : f.word neg r % f.signWeight = r := by
        have := f.infRung_lt
        unfold Format.word
        cases neg
        · rw [if_neg (by simp), Nat.mod_eq_of_lt (by omega)]
        · rw [if_pos rfl, Nat.add_mod_left, Nat.mod_eq_of_lt (by omega)]
      have h6 := h3
      unfold Format.read at h6 ⊢
      dsimp only at h6 ⊢
      rw [h5, if_neg hn1, if_pos hi] at h6 ⊢
      injection h6 with h6 _ _
      rw [h6]
    rw [h4] at h1
    injection h1 with _ h6 h7
    rw [← h6, ← h7]
    have e : (f.leastPlace + ((r / f.binade - 1 : Nat) : Int) - f.leastPlace).toNat = r / f.binade - 1 := by omega
    rw [e]
    calc 2 ^ K ≤ 2 ^ (f.fractionBits + (r / f.binade - 1)) := Nat.pow_le_pow_right (by omega) (by omega)
      _ = 2 ^ f.fractionBits * 2 ^ (r / f.binade - 1) := Nat.pow_add _ _ _
      _ ≤ _ := Nat.mul_le_mul_right _ (by rw [hb]; omega)
  · exfalso
    rw [Nat.min_eq_right (by omega)] at h1
    have h5 : f.word neg f.infRung % f.signWeight = f.infRung := by
      have := f.infRung_lt
      unfold Format.word
      cases neg
      · rw [if_neg (by simp), Nat.mod_eq_of_lt (by omega)]
      · rw [if_pos rfl, Nat.add_mod_left, Nat.mod_eq_of_lt (by omega)]
    unfold Format.read at h1
    dsimp only at h1
    rw [h5] at h1
    by_cases hz : f.infRung < f.binade
    · have h9 : f.infRung = 0 := by
        unfold Format.infRung at hz ⊢
        have h10 : 2 ^ f.exponentBits - 1 = 0 := by
          rcases Nat.eq_zero_or_pos (2 ^ f.exponentBits - 1) with h | h
          · exact h
          · have := Nat.mul_le_mul_right f.binade h
            omega
        rw [h10, Nat.zero_mul]
      have h11 : 2 ^ f.exponentBits ≤ 1 := by
        unfold Format.infRung at h9
        rcases Nat.mul_eq_zero.1 h9 with h | h
        · omega
        · rw [hb] at h; omega
      omega
    · rw [if_neg hz, if_neg (Nat.lt_irrefl _), if_pos rfl] at h1
      cases h1
/-- A quotient of numbers, the second no nought. -/
theorem div_fin {L x y : Nat} {s t : Bool} {m n : Nat} {i j : Int} (hM : f.fractionBits + 1 ≤ L) (hE : L + 2 < 2 ^ f.exponentBits + f.fractionBits) (hx : f.read x = .number s m i) (hy : f.read y = .number t n j) (hn : n ≠ 0) (hb : m = 0 ∨ (i + m.log2) - (j + n.log2) < L + f.leastPlace) :
    ∃ r, f.div x y = some r ∧ FinW f (L + 1) r := by
  obtain ⟨more, hmore⟩ : ∃ more, more = f.fractionBits + 2 + n.log2 - m.log2 := ⟨_, rfl⟩
  have hq : (Datum.number s m i).quotient (f.fractionBits + 2) (.number t n j) = some (.number (s ^^ t) (2 * (m <<< more / n) + (m <<< more % n != 0).toNat) (i - j - more - 1)) := by
    unfold Datum.quotient
    simp only [hn, if_false, hmore]
  have hlog : 2 * (m <<< more / n) + (m <<< more % n != 0).toNat = 0 ∨ (i - j - more - 1) + (2 * (m <<< more / n) + (m <<< more % n != 0).toNat).log2 < L + f.leastPlace := by
    by_cases h0 : 2 * (m <<< more / n) + (m <<< more % n != 0).toNat = 0
    · exact .inl h0
    · right
      by_cases hm : m = 0
      · exfalso
        apply h0
        rw [hm, Nat.zero_shiftLeft, Nat.zero_div, Nat.zero_mod]
        rfl
      have hb2 : (i + m.log2) - (j + n.log2) < L + f.leastPlace := by
        rcases hb with h | h
        · exact absurd h hm
        · exact h
      have h1 : m <<< more < 2 ^ (m.log2 + 1 + more) := by
        rw [Nat.shiftLeft_eq, Nat.pow_add]
        exact Nat.mul_lt_mul_of_pos_right Nat.lt_log2_self (Nat.two_pow_pos _)
      have h2 := Nat.log2_self_le hn
      have hge : n.log2 ≤ m.log2 + 1 + more := by omega
      have h3 : m <<< more / n < 2 ^ (m.log2 + 1 + more - n.log2) := by
        refine Nat.div_lt_of_lt_mul ?_
        calc m <<< more < 2 ^ (m.log2 + 1 + more) := h1
          _ = 2 ^ n.log2 * 2 ^ (m.log2 + 1 + more - n.log2) := by rw [← Nat.pow_add]; congr 1; omega
          _ ≤ _ := Nat.mul_le_mul_right _ h2
      have h4 : (m <<< more % n != 0).toNat ≤ 1 := by cases (m <<< more % n != 0) <;> decide
      have h5 : 2 * (m <<< more / n) + (m <<< more % n != 0).toNat < 2 ^ (m.log2 + 1 + more - n.log2 + 1) := by
        rw [Nat.pow_succ]
        omega
      have h6 := (Nat.log2_lt h0).2 h5
      omega
  obtain ⟨m', i', h7, h8⟩ := near_fin f (s ^^ t) _ _ L hM hE hlog
  exact ⟨_, by unfold Format.div; rw [hx, hy, hq]; rfl, _, m', i', h7, h8⟩
end
end Go.Proofs.Ytillkllkekhmfaa
