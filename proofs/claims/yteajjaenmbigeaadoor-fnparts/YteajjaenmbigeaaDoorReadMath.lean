/-
  Plain facts on texts of amounts: what the specification reads from the end is what the program reads from the first point on. Nothing of the program is in them.
-/
import Derived.Test.YteajjaenmbigeaaDoorDigits
namespace Go.Proofs.YteajjaenmbigeaaDoor
set_option linter.unusedVariables false

def negL (L : List UInt8) : Bool := decide (0 < L.length ∧ (L.headD 0).toNat = 45)
def strip (L : List UInt8) : List UInt8 := if negL L = true then L.tail else L
def okU (U : List UInt8) : Bool := decide (3 ≤ U.length) && decide ((U.getD (U.length - 3) 0).toNat = 46) && wt 15 (U.take (U.length - 3)) && dg (U.getD (U.length - 2) 0) && dg (U.getD (U.length - 1) 0)
def valU (U : List UInt8) : Int := 100 * num (U.take (U.length - 3)) + 10 * (((U.getD (U.length - 2) 0).toNat : Int) - 48) + (((U.getD (U.length - 1) 0).toNat : Int) - 48)

theorem wt_all {m : Nat} {l : List UInt8} (h : wt m l = true) : allD l = true ∧ 1 ≤ l.length ∧ l.length ≤ m := by
  unfold wt at h; simp only [Bool.and_eq_true, decide_eq_true_eq] at h; exact ⟨h.2, h.1.1⟩

theorem wt_mono (l : List UInt8) : wt 15 l = (wt 18 l && decide (l.length ≤ 15)) := by
  unfold wt
  by_cases h : l.length ≤ 15
  · rw [decide_eq_decide.mpr (show (1 ≤ l.length ∧ l.length ≤ 15) ↔ (1 ≤ l.length ∧ l.length ≤ 18) by omega), decide_eq_true h, Bool.and_true]
  · rw [decide_eq_false (show ¬ (1 ≤ l.length ∧ l.length ≤ 15) by omega), decide_eq_false h]; simp

theorem getD_lt {l : List UInt8} {k : Nat} (h : k < l.length) : l.getD k 0 = l[k] := by simp [List.getD_eq_getElem?_getD, h]
theorem getD_take {U : List UInt8} {k j : Nat} (h : k < j) : (U.take j).getD k 0 = U.getD k 0 := by
  simp [List.getD_eq_getElem?_getD, h]

theorem allD_getD {l : List UInt8} (h : allD l = true) {k : Nat} (hk : k < l.length) : dg (l.getD k 0) = true := by
  unfold allD at h; rw [List.all_eq_true] at h
  rw [getD_lt hk]
  exact h _ (List.getElem_mem hk)

theorem drop_two {U : List UInt8} {i : Nat} (h : U.length = i + 3) : U.drop (i + 1) = [U.getD (i + 1) 0, U.getD (i + 2) 0] := by
  rw [List.drop_eq_getElem_cons (by omega), List.drop_eq_getElem_cons (by omega), List.drop_of_length_le (by omega), getD_lt (by omega), getD_lt (by omega)]

theorem cut_ok (U : List UInt8) (i : Nat) (hi : i < U.length) (h46 : (U.getD i 0).toNat = 46) (hf : ∀ k, k < i → (U.getD k 0).toNat ≠ 46) :
    okU U = (wt 15 (U.take i) && decide ((U.drop (i + 1)).length = 2) && allD (U.drop (i + 1))) := by
  by_cases hl : U.length = i + 3
  · have e3 : U.length - 3 = i := by omega
    have e2 : U.length - 2 = i + 1 := by omega
    have e1 : U.length - 1 = i + 2 := by omega
    unfold okU
    rw [e3, e2, e1, drop_two hl, decide_eq_true h46, decide_eq_true (show 3 ≤ U.length by omega)]
    simp [allD, Bool.and_assoc]
  · rw [decide_eq_false (show ¬ (U.drop (i + 1)).length = 2 by simp; omega)]
    simp only [Bool.and_false, Bool.false_and]
    cases hk : okU U with
    | false => rfl
    | true =>
      unfold okU at hk
      simp only [Bool.and_eq_true, decide_eq_true_eq] at hk
      obtain ⟨⟨⟨⟨h3, hp⟩, hw⟩, _⟩, _⟩ := hk
      have ha := (wt_all hw).1
      have hij : ¬ U.length - 3 < i := fun h => hf _ h hp
      have hlt : i < U.length - 3 := by omega
      have := allD_getD ha (k := i) (by simp; omega)
      rw [getD_take hlt, dg_iff, h46] at this
      omega

theorem cut_val (U : List UInt8) (i : Nat) (h : (U.drop (i + 1)).length = 2) (hi : i < U.length) : valU U = 100 * num (U.take i) + num (U.drop (i + 1)) := by
  have hl : U.length = i + 3 := by simp at h; omega
  unfold valU
  rw [drop_two hl, show U.length - 3 = i by omega, show U.length - 2 = i + 1 by omega, show U.length - 1 = i + 2 by omega]
  simp [num]; omega

theorem cut_none (U : List UInt8) (h : ∀ k, k < U.length → (U.getD k 0).toNat ≠ 46) : okU U = false := by
  cases hk : okU U with
  | false => rfl
  | true =>
    unfold okU at hk
    simp only [Bool.and_eq_true, decide_eq_true_eq] at hk
    exact absurd hk.1.1.1.2 (h _ (by omega))

theorem strip_getD (L : List UInt8) (h : 4 ≤ L.length) (k : Nat) (hk : 1 ≤ k) (hk' : k ≤ 3) : (strip L).getD ((strip L).length - k) 0 = L.getD (L.length - k) 0 ∧ 3 ≤ (strip L).length := by
  unfold strip
  split
  · cases L with
    | nil => simp at h
    | cons x T =>
      simp only [List.length_cons, List.tail_cons] at *
      rw [show T.length + 1 - k = (T.length - k) + 1 by omega, List.getD_cons_succ]
      exact ⟨rfl, by omega⟩
  · exact ⟨rfl, by omega⟩

theorem strip_short (L : List UInt8) (h : L.length < 4) : okU (strip L) = false := by
  have hl : (strip L).length ≤ L.length := by unfold strip; split <;> simp
  unfold okU
  by_cases h3 : 3 ≤ (strip L).length
  · have : wt 15 ((strip L).take ((strip L).length - 3)) = false := by
      unfold wt; rw [decide_eq_false (by simp; omega)]; rfl
    rw [this]; simp
  · rw [decide_eq_false h3]; rfl

theorem spec_ok (L : List UInt8) (h : 4 ≤ L.length) :
    okU (strip L) = (decide ((L.getD (L.length - 3) 0).toNat = 46) && wt 15 ((strip L).take ((strip L).length - 3)) && dg (L.getD (L.length - 2) 0) && dg (L.getD (L.length - 1) 0)) := by
  unfold okU
  rw [(strip_getD L h 3 (by omega) (by omega)).1, (strip_getD L h 2 (by omega) (by omega)).1, (strip_getD L h 1 (by omega) (by omega)).1, decide_eq_true (strip_getD L h 3 (by omega) (by omega)).2, Bool.true_and]
theorem spec_val (L : List UInt8) (h : 4 ≤ L.length) :
    valU (strip L) = 100 * num ((strip L).take ((strip L).length - 3)) + 10 * (((L.getD (L.length - 2) 0).toNat : Int) - 48) + (((L.getD (L.length - 1) 0).toNat : Int) - 48) := by
  unfold valU
  rw [(strip_getD L h 2 (by omega) (by omega)).1, (strip_getD L h 1 (by omega) (by omega)).1]

theorem getD_at (s : ByteArray) (k : Nat) (h : k < s.size) : s.data.toList.getD k 0 = s[k] := by
  rw [getD_lt (by simpa using h)]; rfl

theorem valU_bound (U : List UInt8) (h : okU U = true) : 0 ≤ valU U ∧ valU U ≤ 100000000000000000 := by
  unfold okU at h
  simp only [Bool.and_eq_true, decide_eq_true_eq] at h
  obtain ⟨⟨⟨⟨h3, hp⟩, hw⟩, ha⟩, hb⟩ := h
  obtain ⟨hd, h1, h15⟩ := wt_all hw
  have hb1 := num_bound _ _ rfl hd
  have hb2 := pow_le _ 15 h15
  have h2 : (10 : Int) ^ 15 = 1000000000000000 := by decide
  have a1 := (dg_iff _).mp ha
  have a2 := (dg_iff _).mp hb
  unfold valU
  omega
end Go.Proofs.YteajjaenmbigeaaDoor
