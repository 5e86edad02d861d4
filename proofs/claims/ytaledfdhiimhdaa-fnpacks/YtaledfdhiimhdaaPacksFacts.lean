/-
  What Unpack's numbers come to: the units are those that were packed and those that are left, and what is left is less than any pack.
-/
import Derived.Test.YtaledfdhiimhdaaUnpackB
namespace Go.Proofs.Ytaledfdhiimhdaa
open Go.ChangeShapes Go.WideShapes Go.ChangeAt Go.RowKit
set_option linter.unusedVariables false

theorem gwStep_keeps {L : List Int} {m : Int} {i : Nat} {at' : Int} (h : 0 ≤ at') : 0 ≤ gwStep L m i at' := by
  unfold gwStep; split <;> omega
theorem gwGo_keeps (L : List Int) (m : Int) : ∀ (r i : Nat) (at' : Int), 0 ≤ at' → 0 ≤ gwGo L m r i at'
  | 0, i, at', h => h
  | r + 1, i, at', h => gwGo_keeps L m r (i + 1) _ (gwStep_keeps h)
theorem gwGo_finds (L : List Int) (m : Int) : ∀ (r i : Nat) (at' : Int), gwGo L m r i at' < 0 → ∀ j, i ≤ j → j < i + r → m < L.getD j 0
  | 0, i, at', h, j, h1, h2 => by omega
  | r + 1, i, at', h, j, h1, h2 => by
    have h' : gwGo L m r (i + 1) (gwStep L m i at') < 0 := h
    by_cases hj : j = i
    · subst hj
      rcases Int.lt_or_le m (L.getD j 0) with hc | hc
      · exact hc
      · exfalso
        have : 0 ≤ gwStep L m j at' := by
          unfold gwStep
          by_cases ha : at' < 0
          · rw [if_pos ⟨hc, .inl ha⟩]; omega
          · split <;> omega
        have := gwGo_keeps L m r (j + 1) _ this
        omega
    · exact gwGo_finds L m r (i + 1) _ h' j (by omega) (by omega)
theorem gw_none {L : List Int} {m : Int} (h : gw L m < 0) : ∀ j, j < L.length → m < L.getD j 0 := fun j hj => gwGo_finds L m L.length 0 (-1) h j (Nat.zero_le _) (by omega)

/-- The first k products, added up. -/
def dotTo (out L : List Int) : Nat → Int
  | 0 => 0
  | k + 1 => dotTo out L k + out.getD k 0 * L.getD k 0
theorem dotTo_set (L : List Int) (j : Nat) (v : Int) : ∀ (out : List Int) (k : Nat), k ≤ out.length → dotTo (out.set j v) L k = dotTo out L k + if j < k then (v - out.getD j 0) * L.getD j 0 else 0
  | out, 0, h => by simp [dotTo]
  | out, k + 1, h => by
    rw [dotTo, dotTo, dotTo_set L j v out k (by omega), getD_set' out j k v (by omega)]
    by_cases e : j = k
    · subst e
      rw [if_pos rfl, if_neg (by omega), if_pos (by omega), Int.sub_mul]; omega
    · rw [if_neg e]
      by_cases hj : j < k
      · rw [if_pos hj, if_pos (by omega)]; omega
      · rw [if_neg hj, if_neg (by omega)]; omega
theorem dotTo_zero (L : List Int) (n : Nat) : ∀ k, dotTo (List.replicate n 0) L k = 0
  | 0 => rfl
  | k + 1 => by
    rw [dotTo, dotTo_zero L n k]
    have : (List.replicate n (0 : Int)).getD k 0 = 0 := by
      rw [List.getD_eq_getElem?_getD, List.getElem?_replicate]; split <;> rfl
    rw [this]; simp

/-- What holds of the end. -/
def UpOK (L : List Int) (n : Int) (r : List Int × Int) : Prop :=
  r.1.length = L.length ∧ 0 ≤ r.2 ∧ r.2 ≤ n ∧ (∀ i, i < L.length → r.2 < L.getD i 0) ∧ (∀ i, i < L.length → 0 ≤ r.1.getD i 0) ∧ r.2 + dotTo r.1 L L.length = n

theorem upGo_facts {L : List Int} (hL : UnOK L) (n : Int) : ∀ (f : Nat) (left : Int) (out : List Int), left ≤ (f : Int) → 0 ≤ left → left ≤ n → out.length = L.length → (∀ i, i < L.length → 0 ≤ out.getD i 0) → left + dotTo out L L.length = n → UpOK L n (upGo L f left out)
  | 0, left, out, hf, h0, hn, hl, hp, hd => by
    obtain rfl : left = 0 := by omega
    exact ⟨hl, by show (0 : Int) ≤ 0; omega, hn, fun i hi => by have := (getD_bound hL i hi).1; show (0 : Int) < _; omega, hp, hd⟩
  | f + 1, left, out, hf, h0, hn, hl, hp, hd => by
    rw [upGo_step]
    by_cases hg : gw L left < 0
    · rw [if_pos hg]
      exact ⟨hl, h0, hn, fun i hi => gw_none hg i hi, hp, hd⟩
    · rw [if_neg hg]
      rcases gw_ok L left with e | ⟨e1, e2, e3⟩
      · omega
      obtain ⟨k, hk⟩ : ∃ k : Nat, gw L left = (k : Int) := ⟨(gw L left).toNat, by omega⟩
      rw [hk, Int.toNat_natCast] at e3 ⊢
      have hkl : k < L.length := by omega
      obtain ⟨x1, x2⟩ := getD_bound hL k hkl
      have m1 : 0 ≤ left % L.getD k 0 := Int.emod_nonneg _ (by omega)
      have m2 : left % L.getD k 0 < L.getD k 0 := Int.emod_lt_of_pos _ (by omega)
      have m3 : 0 ≤ left / L.getD k 0 := Int.ediv_nonneg h0 (by omega)
      have m4 : L.getD k 0 * (left / L.getD k 0) + left % L.getD k 0 = left := Int.mul_ediv_add_emod _ _
      refine upGo_facts hL n f _ _ (by omega) m1 (by omega) (by rw [List.length_set]; exact hl) (fun i hi => ?_) ?_
      · rw [getD_set' out k i _ (by omega)]
        split
        · have := hp k hkl; omega
        · exact hp i hi
      · rw [dotTo_set L k _ out L.length (by omega), if_pos hkl]
        have e : (out.getD k 0 + left / L.getD k 0 - out.getD k 0) * L.getD k 0 = L.getD k 0 * (left / L.getD k 0) := by
          rw [show out.getD k 0 + left / L.getD k 0 - out.getD k 0 = left / L.getD k 0 by omega, Int.mul_comm]
        rw [e]; omega
theorem upAll_facts {L : List Int} (hL : UnOK L) {n : Int} (hn : 0 ≤ n) : UpOK L n (upAll L n) := by
  refine upGo_facts hL n n.toNat n _ (by omega) hn (by omega) (by simp) (fun i hi => ?_) (by rw [dotTo_zero]; omega)
  rw [List.getD_eq_getElem?_getD, List.getElem?_replicate]; split <;> simp
theorem dotTo_mono {out L : List Int} (h : ∀ i, i < L.length → 0 ≤ out.getD i 0) (hL : UnOK L) : ∀ k, k ≤ L.length → 0 ≤ dotTo out L k ∧ dotTo out L k ≤ dotTo out L L.length := by
  have step : ∀ k, k < L.length → 0 ≤ out.getD k 0 * L.getD k 0 := fun k hk => Int.mul_nonneg (h k hk) (by have := (getD_bound hL k hk).1; omega)
  have up : ∀ d k, k + d ≤ L.length → dotTo out L k ≤ dotTo out L (k + d) := fun d => by
    induction d with
    | zero => intro k _; exact Int.le_refl _
    | succ d ih =>
      intro k hk
      have h1 := ih k (by omega)
      have h2 := step (k + d) (by omega)
      have h3 : dotTo out L (k + (d + 1)) = dotTo out L (k + d) + out.getD (k + d) 0 * L.getD (k + d) 0 := rfl
      omega
  intro k hk
  refine ⟨?_, ?_⟩
  · have := up k 0 (by omega); rw [Nat.zero_add] at this; exact this
  · have := up (L.length - k) k (by omega); rwa [show k + (L.length - k) = L.length by omega] at this
end Go.Proofs.Ytaledfdhiimhdaa
