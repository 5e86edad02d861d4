/-
  What the parts of an amount keep: they add up to it, each is less than one from its share, and a greater weight has no less; pure facts on lists of numbers.
-/
import Derived.Test.YtaledfdhiimhdaaShareC
namespace Go.Proofs.Ytaledfdhiimhdaa
open Go.ChangeShapes Go.WideShapes Go.ChangeAt Go.RowKit
set_option linter.unusedVariables false

/-- Where the loop over what is left is: some parts were raised, each with a rest that was above 0, the greatest rests first. -/
def Rs (q r P R : List Int) : Prop := P.length = q.length ∧ R.length = q.length ∧ r.length = q.length ∧
  (∀ i, i < q.length → (P.getD i 0 = q.getD i 0 ∧ R.getD i 0 = r.getD i 0) ∨ (P.getD i 0 = q.getD i 0 + 1 ∧ R.getD i 0 = 0 ∧ 0 < r.getD i 0)) ∧
  ∀ i k, i < q.length → k < q.length → P.getD k 0 = q.getD k 0 + 1 → r.getD k 0 < r.getD i 0 → P.getD i 0 = q.getD i 0 + 1

theorem Rs.step {q r P R : List Int} (h : Rs q r P R) (hp : 0 < R.sum) : Rs q r (P.set (fg R) (P.getD (fg R) 0 + 1)) (R.set (fg R) 0) ∧ (P.set (fg R) (P.getD (fg R) 0 + 1)).sum = P.sum + 1 ∧ (R.set (fg R) 0).sum = R.sum - R.getD (fg R) 0 ∧ R.getD (fg R) 0 = r.getD (fg R) 0 ∧ fg R < q.length := by
  obtain ⟨h1, h2, h3, h4, h5⟩ := h
  obtain ⟨j, hj, hjp⟩ := sum_pos R hp
  have hl : fg R < R.length := fg_lt R (by omega)
  have hmax : ∀ i, i < R.length → R.getD i 0 ≤ R.getD (fg R) 0 := fgTo_max R R.length
  have hpos : 0 < R.getD (fg R) 0 := by have := hmax j hj; omega
  obtain ⟨hP, hR⟩ : P.getD (fg R) 0 = q.getD (fg R) 0 ∧ R.getD (fg R) 0 = r.getD (fg R) 0 := by
    rcases h4 (fg R) (by omega) with h | h
    · exact h
    · omega
  generalize fg R = m at *
  refine ⟨⟨by simp [h1], by simp [h2], h3, fun i hi => ?_, fun i k hi hk hPk hr => ?_⟩, ?_, ?_, hR, by omega⟩
  · rw [getD_set _ _ _ _ (by omega), getD_set _ _ _ _ (by omega)]
    by_cases e : m = i
    · subst e
      rw [if_pos rfl, if_pos rfl]
      exact .inr ⟨by omega, rfl, by omega⟩
    · rw [if_neg e, if_neg e]; exact h4 i hi
  · rw [getD_set _ _ _ _ (by omega)] at hPk ⊢
    by_cases e : m = i
    · subst e; rw [if_pos rfl]; omega
    · rw [if_neg e]
      by_cases e' : m = k
      · subst e'
        rcases h4 i hi with h | h
        · have := hmax i (by omega); omega
        · exact h.1
      · rw [if_neg e'] at hPk
        exact h5 i k hi hk hPk hr
  · rw [sum_set _ _ _ (by omega)]; omega
  · rw [sum_set _ _ _ (by omega)]; omega

theorem shl_rs (S : Int) (q r : List Int) (hS : 0 < S) (hr : ∀ i, i < q.length → r.getD i 0 < S) : ∀ (n : Nat) (P R : List Int), Rs q r P R → (n : Int) * S ≤ R.sum → (∃ R', Rs q r (shl 0 n P R) R') ∧ (shl 0 n P R).sum = P.sum + (n : Int) := by
  intro n
  induction n with
  | zero => intro P R h _; exact ⟨⟨R, h⟩, by show P.sum = _; simp⟩
  | succ n ih =>
    intro P R h hs
    have e1 : ((n + 1 : Nat) : Int) * S = (n : Int) * S + S := by rw [Int.natCast_succ, Int.add_mul, Int.one_mul]
    rw [e1] at hs
    have hn : 0 ≤ (n : Int) * S := Int.mul_nonneg (by omega) (by omega)
    obtain ⟨a, b, c, d, e⟩ := h.step (by omega)
    have hlt := hr (fg R) e
    obtain ⟨x, y⟩ := ih _ _ a (by omega)
    refine ⟨x, ?_⟩
    show (shl 0 n _ _).sum = _
    rw [y, b]; omega

theorem restsSum (z S : Int) (hS : 0 < S) : ∀ ws : List Int, (r0 z S ws).sum = z * ws.sum - (p0 z S ws).sum * S
  | [] => by simp [r0, p0]
  | x :: ws => by
    have ih := restsSum z S hS ws
    have h := Int.emod_add_ediv_mul (z * x) S
    simp only [r0, p0, List.map_cons, List.sum_cons] at ih ⊢
    rw [ih, Int.mul_add, Int.add_mul]
    omega
theorem p0_getD (z S : Int) (ws : List Int) (i : Nat) (h : i < ws.length) : (p0 z S ws).getD i 0 = z * ws.getD i 0 / S ∧ (r0 z S ws).getD i 0 = z * ws.getD i 0 % S := by
  constructor <;> simp [p0, r0, List.getD_eq_getElem?_getD, h]

/-- What is said of the parts of n. -/
theorem share_facts (n : Int) (ws : List Int) (hn : 0 ≤ n) (hw : ∀ x ∈ ws, 0 ≤ x) (hS : 1 ≤ ws.sum) :
    (shAbs n ws).sum = n ∧ (∀ i, i < ws.length → (shAbs n ws).getD i 0 * ws.sum - n * ws.getD i 0 < ws.sum ∧ -((shAbs n ws).getD i 0 * ws.sum - n * ws.getD i 0) < ws.sum ∧ 0 ≤ (shAbs n ws).getD i 0) ∧
    ∀ i k, i < ws.length → k < ws.length → ws.getD k 0 < ws.getD i 0 → (shAbs n ws).getD k 0 ≤ (shAbs n ws).getD i 0 := by
  have hna : (n.natAbs : Int) = n := by omega
  unfold shAbs
  rw [hna]
  have hsum := restsSum n ws.sum (by omega) ws
  have hlp : (p0 n ws.sum ws).length = ws.length := by simp [p0]
  have hlr : (r0 n ws.sum ws).length = ws.length := by simp [r0]
  have hg := p0_getD n ws.sum ws
  have hem : ∀ i, i < ws.length → 0 ≤ (r0 n ws.sum ws).getD i 0 ∧ (r0 n ws.sum ws).getD i 0 < ws.sum := fun i hi => by
    rw [(hg i hi).2]; exact ⟨Int.emod_nonneg _ (by omega), Int.emod_lt_of_pos _ (by omega)⟩
  have hrn : 0 ≤ (r0 n ws.sum ws).sum := by
    have : ∀ l : List Int, (∀ x ∈ l, 0 ≤ x) → 0 ≤ l.sum := fun l => by
      induction l with
      | nil => intro _; simp
      | cons a l ih => intro h; rw [List.sum_cons]; have := h a (by simp); have := ih (fun x hx => h x (by simp [hx])); omega
    refine this _ fun x hx => ?_
    simp only [r0, List.mem_map] at hx
    obtain ⟨y, _, rfl⟩ := hx
    exact Int.emod_nonneg _ (by omega)
  have hleft : leftOf n ws.sum ws * ws.sum = (r0 n ws.sum ws).sum := by
    unfold leftOf; rw [hsum, Int.sub_mul]
  have hl0 : 0 ≤ leftOf n ws.sum ws := by
    rcases Int.lt_or_le (leftOf n ws.sum ws) 0 with h | h
    · have : leftOf n ws.sum ws * ws.sum ≤ (-1) * ws.sum := Int.mul_le_mul_of_nonneg_right (by omega) (by omega)
      omega
    · exact h
  have hcast : ((leftOf n ws.sum ws).toNat : Int) = leftOf n ws.sum ws := by omega
  obtain ⟨⟨R', hRs⟩, hs⟩ := shl_rs ws.sum (p0 n ws.sum ws) (r0 n ws.sum ws) (by omega) (fun i hi => (hem i (by omega)).2) (leftOf n ws.sum ws).toNat (p0 n ws.sum ws) (r0 n ws.sum ws)
    ⟨rfl, by omega, by omega, fun i hi => .inl ⟨rfl, rfl⟩, fun i k hi hk h _ => by omega⟩ (by rw [hcast, hleft]; exact Int.le_refl _)
  generalize hP : shl 0 (leftOf n ws.sum ws).toNat (p0 n ws.sum ws) (r0 n ws.sum ws) = P at *
  obtain ⟨l1, l2, l3, l4, l5⟩ := hRs
  refine ⟨by rw [hs, hcast]; unfold leftOf; omega, fun i hi => ?_, fun i k hi hk hw' => ?_⟩
  · obtain ⟨g1, g2⟩ := hg i hi
    have he := hem i hi
    have hd := Int.emod_add_ediv_mul (n * ws.getD i 0) ws.sum
    have hx : 0 ≤ ws.getD i 0 := by rw [getD_int hi]; exact hw _ (List.getElem_mem _)
    have hq : 0 ≤ n * ws.getD i 0 / ws.sum := Int.ediv_nonneg (Int.mul_nonneg hn hx) (by omega)
    rcases l4 i (by omega) with ⟨h, _⟩ | ⟨h, _, h'⟩
    · rw [h, g1]; omega
    · rw [h, g1, Int.add_mul]; omega
  · obtain ⟨g1, g2⟩ := hg i hi
    obtain ⟨g3, g4⟩ := hg k hk
    have hd := Int.emod_add_ediv_mul (n * ws.getD i 0) ws.sum
    have hd' := Int.emod_add_ediv_mul (n * ws.getD k 0) ws.sum
    have hle : n * ws.getD k 0 ≤ n * ws.getD i 0 := Int.mul_le_mul_of_nonneg_left (by omega) hn
    have hq : n * ws.getD k 0 / ws.sum ≤ n * ws.getD i 0 / ws.sum := Int.ediv_le_ediv (by omega) hle
    rcases Int.lt_or_le (n * ws.getD k 0 / ws.sum) (n * ws.getD i 0 / ws.sum) with hlt | hge
    · rcases l4 i (by omega) with ⟨h, _⟩ | ⟨h, _, _⟩ <;> rcases l4 k (by omega) with ⟨h', _⟩ | ⟨h', _, _⟩ <;> omega
    · have hqe : n * ws.getD k 0 / ws.sum = n * ws.getD i 0 / ws.sum := by omega
      rcases l4 k (by omega) with ⟨h', _⟩ | ⟨h', _, hpos⟩
      · rcases l4 i (by omega) with ⟨h, _⟩ | ⟨h, _, _⟩ <;> omega
      · have hn0 : 0 < n := by
          rcases Int.lt_or_le 0 n with h | h
          · exact h
          · have : n = 0 := by omega
            subst this
            rw [g4] at hpos; simp at hpos
        have hstrict : n * ws.getD k 0 < n * ws.getD i 0 := Int.mul_lt_mul_of_pos_left hw' hn0
        have := l5 i k (by omega) (by omega) h' (by rw [g4, g2]; rw [hqe] at hd'; omega)
        omega
end Go.Proofs.Ytaledfdhiimhdaa
