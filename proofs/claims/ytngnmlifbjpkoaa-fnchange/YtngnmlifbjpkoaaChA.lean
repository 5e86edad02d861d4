/-
  Change as mathematics: the fewest coins of first kinds at each sum, as the specification has them (-1 where there is no way) and as the program has them (721 there), and the way that is read back; nothing of the program is in it.
-/
import Derived.Test.YtngnmlifbjpkoaaHeA
namespace Go.Proofs.Ytngnmlifbjpkoaa
open Go.ChangeShapes Go.WideShapes Go.ChangeAt Go.RowKit
set_option linter.unusedVariables false

/-- The specification's best of the first j counts (from 0 on). -/
def bS (row : Nat → Int) (v n : Nat) : Nat → Int
  | 0 => -1
  | j + 1 => if 0 ≤ row (n - j * v) ∧ (bS row v n j < 0 ∨ row (n - j * v) + (j : Int) < bS row v n j) then row (n - j * v) + (j : Int) else bS row v n j
/-- The program's best of the first j counts (from 1 on) and of none. -/
def bI (row : Nat → Int) (v n : Nat) : Nat → Int
  | 0 => row n
  | j + 1 => min (bI row v n j) (row (n - (j + 1) * v) + ((j : Int) + 1))
/-- How many of this kind are within a sum. -/
def mS (r : RCo) (n : Nat) : Nat := min r.ct.toNat (n / r.vl.toNat)
def r0S (n : Nat) : Int := if n = 0 then 0 else -1
def r0I (n : Nat) : Int := if n = 0 then 0 else 721
def nxS (r : RCo) (row : Nat → Int) (n : Nat) : Int := bS row r.vl.toNat n (mS r n + 1)
def nxI (r : RCo) (row : Nat → Int) (n : Nat) : Int := bI row r.vl.toNat n (mS r n)
/-- Rows by the number of first kinds. -/
def rwS (rs : List RCo) : Nat → Nat → Int
  | 0 => r0S
  | k + 1 => nxS (rs.getD k zCo) (rwS rs k)
def rwI (rs : List RCo) : Nat → Nat → Int
  | 0 => r0I
  | k + 1 => nxI (rs.getD k zCo) (rwI rs k)
/-- The two say the same: at most m coins, or none. -/
def Eq2 (m : Int) (x y : Int) : Prop := (x = -1 ∧ y = 721) ∨ (0 ≤ x ∧ x ≤ m ∧ y = x)
theorem b_both {S I : Nat → Int} {v n : Nat} {m : Int} (hm : m ≤ 660) (c : Nat) (hc : c ≤ 60) (h : ∀ i, i ≤ n → Eq2 m (S i) (I i)) : ∀ j, j ≤ c → Eq2 (m + (j : Int)) (bS S v n (j + 1)) (bI I v n j)
  | 0, _ => by
    have h0 := h n (Nat.le_refl _)
    unfold bS bI bS
    rw [Nat.zero_mul, Nat.sub_zero]
    rcases h0 with ⟨h1, h2⟩ | ⟨h1, h2, h3⟩
    · rw [if_neg (by omega)]; exact .inl ⟨rfl, h2⟩
    · rw [if_pos (by omega)]; exact .inr ⟨by omega, by omega, by omega⟩
  | j + 1, hj => by
    have ih := b_both (v := v) hm c hc h j (by omega)
    have h0 := h (n - (j + 1) * v) (Nat.sub_le _ _)
    rw [bS, bI]
    generalize bS S v n (j + 1) = p at *
    generalize bI I v n j = q at *
    generalize S (n - (j + 1) * v) = s at *
    generalize I (n - (j + 1) * v) = t at *
    have e : ((j + 1 : Nat) : Int) = (j : Int) + 1 := by omega
    rw [e]
    rcases ih with ⟨h1, h2⟩ | ⟨h1, h2, h3⟩ <;> rcases h0 with ⟨k1, k2⟩ | ⟨k1, k2, k3⟩
    · rw [if_neg (by omega)]; exact .inl ⟨h1, by omega⟩
    · rw [if_pos (by omega)]; exact .inr ⟨by omega, by omega, by omega⟩
    · rw [if_neg (by omega)]; exact .inr ⟨by omega, by omega, by omega⟩
    · by_cases hlt : s + ((j : Int) + 1) < p
      · rw [if_pos (by omega)]; exact .inr ⟨by omega, by omega, by omega⟩
      · rw [if_neg (by omega)]; exact .inr ⟨by omega, by omega, by omega⟩
theorem rw_both (rs : List RCo) (hr : ∀ r ∈ rs, 1 ≤ r.vl ∧ r.vl ≤ 100000 ∧ 0 ≤ r.ct ∧ r.ct ≤ 60) (h12 : rs.length ≤ 12) : ∀ k, k ≤ rs.length → ∀ n, Eq2 (60 * (k : Int)) (rwS rs k n) (rwI rs k n)
  | 0, _, n => by
    show Eq2 _ (r0S n) (r0I n)
    unfold r0S r0I
    by_cases h : n = 0
    · rw [if_pos h, if_pos h]; exact .inr ⟨by omega, by omega, rfl⟩
    · rw [if_neg h, if_neg h]; exact .inl ⟨rfl, rfl⟩
  | k + 1, hk, n => by
    have ih := rw_both rs hr h12 k (by omega)
    have hc := getCo hr (show k < rs.length by omega)
    have hm : mS (rs.getD k zCo) n ≤ 60 := by unfold mS; have := Nat.min_le_left (rs.getD k zCo).ct.toNat (n / (rs.getD k zCo).vl.toNat); omega
    have := b_both (v := (rs.getD k zCo).vl.toNat) (n := n) (m := 60 * (k : Int)) (by omega) 60 (Nat.le_refl _) (fun i _ => ih i) (mS (rs.getD k zCo) n) hm
    show Eq2 _ (nxS _ _ n) (nxI _ _ n)
    unfold nxS nxI
    rcases this with h | ⟨h1, h2, h3⟩
    · exact .inl h
    · exact .inr ⟨h1, by omega, h3⟩
/-- Whether c coins of a kind do: what is left is made of the kinds ahead by the fewest. -/
def doesS (row : Nat → Int) (v : Nat) (left : Nat) (f : Int) (c : Nat) : Bool := decide (c * v ≤ left) && (decide (0 ≤ row (left - c * v)) && decide (row (left - c * v) + (c : Int) = f))
/-- The most that does, of at most c. -/
def pick (row : Nat → Int) (v left : Nat) (f : Int) : Nat → Nat
  | 0 => 0
  | c + 1 => if doesS row v left f (c + 1) = true then c + 1 else pick row v left f c
theorem pick_le (row : Nat → Int) (v left : Nat) (f : Int) : ∀ c, pick row v left f c ≤ c
  | 0 => Nat.le_refl _
  | c + 1 => by unfold pick; split; · omega
                · have := pick_le row v left f c; omega
theorem pick_does (row : Nat → Int) (v left : Nat) (f : Int) : ∀ c, (∃ d, d ≤ c ∧ doesS row v left f d = true) → doesS row v left f (pick row v left f c) = true
  | 0, ⟨d, hd, h⟩ => by obtain rfl : d = 0 := by omega
                        exact h
  | c + 1, ⟨d, hd, h⟩ => by
    unfold pick
    by_cases hc : doesS row v left f (c + 1) = true
    · rw [if_pos hc]; exact hc
    · rw [if_neg hc]
      refine pick_does row v left f c ⟨d, ?_, h⟩
      rcases (by omega : d = c + 1 ∨ d ≤ c) with rfl | h'
      · exact absurd h hc
      · exact h'
theorem bS_some {row : Nat → Int} {v n : Nat} : ∀ j, 0 ≤ bS row v n j → ∃ d, d < j ∧ 0 ≤ row (n - d * v) ∧ row (n - d * v) + (d : Int) = bS row v n j
  | 0, h => by unfold bS at h; omega
  | j + 1, h => by
    rw [bS] at h ⊢
    by_cases hc : 0 ≤ row (n - j * v) ∧ (bS row v n j < 0 ∨ row (n - j * v) + (j : Int) < bS row v n j)
    · rw [if_pos hc]; exact ⟨j, by omega, hc.1, rfl⟩
    · rw [if_neg hc] at h ⊢
      obtain ⟨d, h1, h2⟩ := bS_some j h
      exact ⟨d, by omega, h2⟩
theorem mS_fits (r : RCo) (hv : 1 ≤ r.vl) (n d : Nat) (h : d ≤ mS r n) : d ≤ r.ct.toNat ∧ d * r.vl.toNat ≤ n := by
  unfold mS at h
  have h1 := Nat.min_le_left r.ct.toNat (n / r.vl.toNat)
  have h2 := Nat.min_le_right r.ct.toNat (n / r.vl.toNat)
  exact ⟨by omega, (Nat.le_div_iff_mul_le (by omega)).1 (by omega)⟩
theorem mS_max (r : RCo) (hv : 1 ≤ r.vl) (n d : Nat) (h1 : d ≤ r.ct.toNat) (h2 : d * r.vl.toNat ≤ n) : d ≤ mS r n := by
  unfold mS
  have := (Nat.le_div_iff_mul_le (show 0 < r.vl.toNat by omega)).2 h2
  omega
/-- What is left ahead of kind k, and how many of kind k are taken, from the last kind on. -/
def lfS (rs : List RCo) (due : Nat) : Nat → Nat
  | 0 => due
  | j + 1 => let k := rs.length - (j + 1)
             lfS rs due j - pick (rwS rs k) (rs.getD k zCo).vl.toNat (lfS rs due j) (rwS rs (k + 1) (lfS rs due j)) (mS (rs.getD k zCo) (lfS rs due j)) * (rs.getD k zCo).vl.toNat
def tkS (rs : List RCo) (due : Nat) (j : Nat) : Nat :=
  let k := rs.length - (j + 1)
  pick (rwS rs k) (rs.getD k zCo).vl.toNat (lfS rs due j) (rwS rs (k + 1) (lfS rs due j)) (mS (rs.getD k zCo) (lfS rs due j))
theorem lfS_step (rs : List RCo) (due j : Nat) : lfS rs due (j + 1) = lfS rs due j - tkS rs due j * (rs.getD (rs.length - (j + 1)) zCo).vl.toNat := rfl
/-- What is told: from the first kind on. -/
def cnS (rs : List RCo) (due : Nat) (i : Nat) : Int := (tkS rs due (rs.length - 1 - i) : Int)
def chL (rs : List RCo) (due : Nat) : List Int := (List.range rs.length).map (cnS rs due)
def chCode (due : Int) (rs : List RCo) : Int := if 4096 < rs.length then 2 else if heAll rs = false then 1 else if due < 0 ∨ 10000 < due then 5 else if rwS rs rs.length due.toNat < 0 then 8 else 0
def chList (due : Int) (rs : List RCo) : List Int := if chCode due rs = 0 then chL rs due.toNat else []
/-- Each step has a way. -/
theorem lf_way (rs : List RCo) (hr : ∀ r ∈ rs, 1 ≤ r.vl ∧ r.vl ≤ 100000 ∧ 0 ≤ r.ct ∧ r.ct ≤ 60) (due : Nat) (h0 : 0 ≤ rwS rs rs.length due) : ∀ j, j ≤ rs.length → lfS rs due j ≤ due ∧ 0 ≤ rwS rs (rs.length - j) (lfS rs due j) ∧ (j < rs.length → doesS (rwS rs (rs.length - (j + 1))) (rs.getD (rs.length - (j + 1)) zCo).vl.toNat (lfS rs due j) (rwS rs (rs.length - (j + 1) + 1) (lfS rs due j)) (tkS rs due j) = true)
  | 0, _ => by
    refine ⟨Nat.le_refl _, h0, fun h => ?_⟩
    exact lf_one rs hr due 0 h h0
  | j + 1, hj => by
    obtain ⟨h1, h2, h3⟩ := lf_way rs hr due h0 j (by omega)
    have h4 := h3 (by omega)
    have h5 : 0 ≤ rwS rs (rs.length - (j + 1)) (lfS rs due (j + 1)) := by
      rw [lfS_step]
      unfold doesS at h4
      rw [Bool.and_eq_true, Bool.and_eq_true] at h4
      exact of_decide_eq_true h4.2.1
    refine ⟨by rw [lfS_step]; exact Nat.le_trans (Nat.sub_le _ _) h1, h5, fun h => ?_⟩
    exact lf_one rs hr due (j + 1) h h5
where
  lf_one (rs : List RCo) (hr : ∀ r ∈ rs, 1 ≤ r.vl ∧ r.vl ≤ 100000 ∧ 0 ≤ r.ct ∧ r.ct ≤ 60) (due j : Nat) (h : j < rs.length) (h2 : 0 ≤ rwS rs (rs.length - j) (lfS rs due j)) : doesS (rwS rs (rs.length - (j + 1))) (rs.getD (rs.length - (j + 1)) zCo).vl.toNat (lfS rs due j) (rwS rs (rs.length - (j + 1) + 1) (lfS rs due j)) (tkS rs due j) = true := by
    have e : rs.length - j = rs.length - (j + 1) + 1 := by omega
    rw [e] at h2
    have hc := getCo hr (show rs.length - (j + 1) < rs.length by omega)
    refine pick_does _ _ _ _ _ ?_
    have h3 : 0 ≤ nxS (rs.getD (rs.length - (j + 1)) zCo) (rwS rs (rs.length - (j + 1))) (lfS rs due j) := h2
    obtain ⟨d, hd, h4, h5⟩ := bS_some _ h3
    have hf := mS_fits _ hc.1 (lfS rs due j) d (by omega)
    refine ⟨d, by omega, ?_⟩
    unfold doesS
    rw [decide_eq_true hf.2, decide_eq_true h4]
    exact decide_eq_true h5
end Go.Proofs.Ytngnmlifbjpkoaa
