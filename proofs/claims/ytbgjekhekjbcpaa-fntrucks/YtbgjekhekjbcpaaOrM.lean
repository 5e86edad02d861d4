/-
  Orders as mathematics: what a need asks for, how many packs, what has room; nothing of the program is in it.
-/
import Derived.Test.YtbgjekhekjbcpaaQsA
namespace Go.Proofs.Ytbgjekhekjbcpaa
open Go.ChangeShapes Go.WideShapes Go.ChangeAt Go.RowKit
set_option linter.unusedVariables false

/-- A need is right: Level a, Onhand b, Onorder c, Pack d, Minimum e, Space f. -/
def ndB (a b c d e f : Int) : Bool := inB a 0 100000 && inB b 0 100000 && inB c 0 100000 && inB d 1 100000 && inB e 0 100000 && inB f 0 100000
theorem nd_facts {a b c d e f : Int} (h : ndB a b c d e f = true) : (0 ≤ a ∧ a ≤ 100000) ∧ (0 ≤ b ∧ b ≤ 100000) ∧ (0 ≤ c ∧ c ≤ 100000) ∧ (1 ≤ d ∧ d ≤ 100000) ∧ (0 ≤ e ∧ e ≤ 100000) ∧ 0 ≤ f ∧ f ≤ 100000 := by
  unfold ndB inB at h
  simp only [Bool.and_eq_true, decide_eq_true_eq] at h
  obtain ⟨⟨⟨⟨⟨h1, h2⟩, h3⟩, h4⟩, h5⟩, h6⟩ := h
  exact ⟨h1, h2, h3, h4, h5, h6⟩
theorem nd_of {a b c d e f : Int} (h : (0 ≤ a ∧ a ≤ 100000) ∧ (0 ≤ b ∧ b ≤ 100000) ∧ (0 ≤ c ∧ c ≤ 100000) ∧ (1 ≤ d ∧ d ≤ 100000) ∧ (0 ≤ e ∧ e ≤ 100000) ∧ 0 ≤ f ∧ f ≤ 100000) : ndB a b c d e f = true := by
  unfold ndB inB
  simp only [Bool.and_eq_true, decide_eq_true_eq]
  obtain ⟨h1, h2, h3, h4, h5, h6⟩ := h
  exact ⟨⟨⟨⟨⟨h1, h2⟩, h3⟩, h4⟩, h5⟩, h6⟩
theorem nd_al (a b c d e f : Int) : (alB 0 100000 [a, b, c, d, e, f] && decide (1 ≤ d)) = ndB a b c d e f := by
  rw [Bool.eq_iff_iff]
  unfold ndB alB inB
  simp only [List.all_cons, List.all_nil, Bool.and_eq_true, decide_eq_true_eq, and_true]
  omega
/-- How many packs are wanted. -/
def odP (a th d e : Int) : Int := (max (a - th) e + d - 1) / d
/-- How many have room. -/
def odR (th d f : Int) : Int := max 0 (f - th) / d
def odU (a b c d e f : Int) : Int := if ndB a b c d e f = true then (if a ≤ b + c then 0 else if odP a (b + c) d e ≤ odR (b + c) d f then odP a (b + c) d e * d else if odR (b + c) d f * d < max e 1 then 0 else odR (b + c) d f * d) else 0
def odT (a b c d e f : Int) : Bool := if ndB a b c d e f = true then (if a ≤ b + c then false else if odP a (b + c) d e ≤ odR (b + c) d f then false else if odR (b + c) d f * d < max e 1 then false else true) else false
def odC (a b c d e f : Int) : Int := if ndB a b c d e f = true then (if a ≤ b + c then 0 else if odP a (b + c) d e ≤ odR (b + c) d f then 0 else if odR (b + c) d f * d < max e 1 then 14 else 0) else 1
theorem od_ways (a b c d e f : Int) : (ndB a b c d e f = false ∧ odU a b c d e f = 0 ∧ odT a b c d e f = false ∧ odC a b c d e f = 1) ∨
    (ndB a b c d e f = true ∧ a ≤ b + c ∧ odU a b c d e f = 0 ∧ odT a b c d e f = false ∧ odC a b c d e f = 0) ∨
    (ndB a b c d e f = true ∧ b + c < a ∧ ((odP a (b + c) d e ≤ odR (b + c) d f ∧ odU a b c d e f = odP a (b + c) d e * d ∧ odT a b c d e f = false ∧ odC a b c d e f = 0) ∨
      (odR (b + c) d f < odP a (b + c) d e ∧ odR (b + c) d f * d < max e 1 ∧ odU a b c d e f = 0 ∧ odT a b c d e f = false ∧ odC a b c d e f = 14) ∨
      (odR (b + c) d f < odP a (b + c) d e ∧ max e 1 ≤ odR (b + c) d f * d ∧ odU a b c d e f = odR (b + c) d f * d ∧ odT a b c d e f = true ∧ odC a b c d e f = 0))) := by
  unfold odU odT odC
  by_cases h : ndB a b c d e f = true
  · simp only [if_pos h]
    by_cases h1 : a ≤ b + c
    · simp only [if_pos h1]; exact .inr (.inl ⟨h, h1, by trivial, by trivial, by trivial⟩)
    · simp only [if_neg h1]
      refine .inr (.inr ⟨h, by omega, ?_⟩)
      by_cases h2 : odP a (b + c) d e ≤ odR (b + c) d f
      · simp only [if_pos h2]; exact .inl ⟨h2, by trivial, by trivial, by trivial⟩
      · simp only [if_neg h2]
        by_cases h3 : odR (b + c) d f * d < max e 1
        · simp only [if_pos h3]; exact .inr (.inl ⟨by omega, h3, by trivial, by trivial, by trivial⟩)
        · simp only [if_neg h3]; exact .inr (.inr ⟨by omega, by omega, by trivial, by trivial, by trivial⟩)
  · simp only [if_neg h]; exact .inl ⟨by simpa using h, by trivial, by trivial, by trivial⟩
/-- All numbers that both reckon with. -/
theorem od_nums {a th d e f : Int} (h1 : 0 ≤ th ∧ th ≤ 200000) (h2 : th < a ∧ a ≤ 100000) (h3 : 1 ≤ d ∧ d ≤ 100000) (h4 : 0 ≤ e ∧ e ≤ 100000) (h5 : 0 ≤ f ∧ f ≤ 100000) :
    (max (a - th) e + d - 1).tdiv d = odP a th d e ∧ (max 0 (f - th)).tdiv d = odR th d f ∧ max (f - th) 0 - (max (f - th) 0).tmod d = odR th d f * d ∧ (1 ≤ odP a th d e ∧ odP a th d e ≤ 200000) ∧ (0 ≤ odR th d f ∧ odR th d f ≤ 100000) ∧ (max (a - th) e ≤ odP a th d e * d ∧ odP a th d e * d ≤ max (a - th) e + d - 1) ∧ (0 ≤ odR th d f * d ∧ odR th d f * d ≤ max 0 (f - th) ∧ max 0 (f - th) < odR th d f * d + d) ∧ (th + odP a th d e * d ≤ f ↔ odP a th d e ≤ odR th d f) ∧ (max (f - th) 0).tmod d = max (f - th) 0 - odR th d f * d := by
  have hw : 1 ≤ max (a - th) e := by omega
  have hw2 : max (a - th) e ≤ 100000 := by omega
  have hr : 0 ≤ max 0 (f - th) ∧ max 0 (f - th) ≤ 100000 := by omega
  have hsw : max (f - th) 0 = max 0 (f - th) := by omega
  rw [hsw]
  have hfr : ∀ x, th + x ≤ f ∧ 1 ≤ x ↔ x ≤ max 0 (f - th) ∧ 1 ≤ x := fun x => by omega
  unfold odP odR
  generalize max (a - th) e = m at *
  generalize max 0 (f - th) = r at *
  have e1 : (m + d - 1).tdiv d = (m + d - 1) / d := Int.tdiv_eq_ediv_of_nonneg (by omega)
  have e2 : r.tdiv d = r / d := Int.tdiv_eq_ediv_of_nonneg (by omega)
  have e3 : r.tmod d = r % d := Int.tmod_eq_emod_of_nonneg (by omega)
  have e4 := Int.emod_add_mul_ediv r d
  have e5 := Int.emod_add_mul_ediv (m + d - 1) d
  have e6 := Int.emod_nonneg r (show d ≠ 0 by omega)
  have e7 := Int.emod_lt_of_pos r (show 0 < d by omega)
  have e8 := Int.emod_nonneg (m + d - 1) (show d ≠ 0 by omega)
  have e9 := Int.emod_lt_of_pos (m + d - 1) (show 0 < d by omega)
  have c1 : d * (r / d) = r / d * d := Int.mul_comm _ _
  have c2 : d * ((m + d - 1) / d) = (m + d - 1) / d * d := Int.mul_comm _ _
  have p1 : 1 ≤ (m + d - 1) / d := Int.le_ediv_of_mul_le (by omega) (by omega)
  have p2 : (m + d - 1) / d ≤ m + d - 1 := Int.ediv_le_self _ (by omega)
  have r1 : 0 ≤ r / d := Int.ediv_nonneg (by omega) (by omega)
  have r3 : 0 ≤ r / d * d := Int.mul_nonneg r1 (by omega)
  have r2 : r / d ≤ r := Int.ediv_le_self _ (by omega)
  have q0 : (m + d - 1) / d ≤ r / d ↔ (m + d - 1) / d * d ≤ r := Int.le_ediv_iff_mul_le (by omega)
  rw [e1, e2, e3]
  generalize (m + d - 1) / d = P at *
  generalize r / d = R at *
  generalize (m + d - 1) % d = x1 at *
  generalize r % d = x2 at *
  have q := hfr (P * d)
  generalize P * d = pd at *
  generalize R * d = rd at *
  refine ⟨rfl, rfl, by omega, ⟨p1, by omega⟩, ⟨r1, by omega⟩, ⟨by omega, by omega⟩, ⟨by omega, by omega, by omega⟩, ?_, by omega⟩
  rw [q0]
  have hpd : 1 ≤ pd := by omega
  constructor
  · intro h; exact (q.1 ⟨h, hpd⟩).1
  · intro h; exact (q.2 ⟨h, hpd⟩).1
end Go.Proofs.Ytbgjekhekjbcpaa
