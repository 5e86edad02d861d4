/-
  What Change's way comes to: it makes just the amount, of coins that are held, and no way has fewer coins; nothing of the program is in it.
-/
import Derived.Test.YtngnmlifbjpkoaaChA
namespace Go.Proofs.Ytngnmlifbjpkoaa
open Go.ChangeShapes Go.WideShapes Go.ChangeAt Go.RowKit
set_option linter.unusedVariables false

/-- What the first k counts come to, and how many coins they are. -/
def wrt (rs : List RCo) (f : Nat → Nat) : Nat → Nat
  | 0 => 0
  | k + 1 => wrt rs f k + (rs.getD k zCo).vl.toNat * f k
def cnt (f : Nat → Nat) : Nat → Nat
  | 0 => 0
  | k + 1 => cnt f k + f k
/-- bS is no more than any of its candidates, and there is one if a candidate is. -/
theorem bS_least {row : Nat → Int} {v n : Nat} (hrow : ∀ i, -1 ≤ row i) : ∀ j d, d < j → 0 ≤ row (n - d * v) → 0 ≤ bS row v n j ∧ bS row v n j ≤ row (n - d * v) + (d : Int)
  | 0, d, hd, _ => by omega
  | j + 1, d, hd, h => by
    rw [bS]
    have hj := hrow (n - j * v)
    by_cases e : d = j
    · subst e
      by_cases hc : 0 ≤ row (n - d * v) ∧ (bS row v n d < 0 ∨ row (n - d * v) + (d : Int) < bS row v n d)
      · rw [if_pos hc]; omega
      · rw [if_neg hc]; omega
    · have ih := bS_least hrow j d (by omega) h
      by_cases hc : 0 ≤ row (n - j * v) ∧ (bS row v n j < 0 ∨ row (n - j * v) + (j : Int) < bS row v n j)
      · rw [if_pos hc]; omega
      · rw [if_neg hc]; omega
theorem rwS_low (rs : List RCo) : ∀ k n, -1 ≤ rwS rs k n
  | 0, n => by show -1 ≤ r0S n; unfold r0S; split <;> omega
  | k + 1, n => by
    have : ∀ j, -1 ≤ bS (rwS rs k) (rs.getD k zCo).vl.toNat n j := fun j => by
      induction j with
      | zero => unfold bS; omega
      | succ j ih => rw [bS]; have := rwS_low rs k (n - j * (rs.getD k zCo).vl.toNat); split <;> omega
    exact this _
/-- Any way within the counts: there is a fewest, and it has no more coins. -/
theorem rwS_most (rs : List RCo) (hr : ∀ r ∈ rs, 1 ≤ r.vl ∧ r.vl ≤ 100000 ∧ 0 ≤ r.ct ∧ r.ct ≤ 60) (f : Nat → Nat) (hf : ∀ i, i < rs.length → f i ≤ (rs.getD i zCo).ct.toNat) : ∀ k, k ≤ rs.length → 0 ≤ rwS rs k (wrt rs f k) ∧ rwS rs k (wrt rs f k) ≤ (cnt f k : Int)
  | 0, _ => by
    show 0 ≤ r0S 0 ∧ r0S 0 ≤ _
    unfold r0S
    simp [cnt]
  | k + 1, hk => by
    have ih := rwS_most rs hr f hf k (by omega)
    have hc := getCo hr (show k < rs.length by omega)
    have hm := hf k (by omega)
    show 0 ≤ nxS (rs.getD k zCo) (rwS rs k) (wrt rs f (k + 1)) ∧ nxS (rs.getD k zCo) (rwS rs k) (wrt rs f (k + 1)) ≤ _
    have hw : wrt rs f (k + 1) = wrt rs f k + (rs.getD k zCo).vl.toNat * f k := rfl
    have he : wrt rs f (k + 1) - f k * (rs.getD k zCo).vl.toNat = wrt rs f k := by rw [hw, Nat.mul_comm]; omega
    have hfit : f k ≤ mS (rs.getD k zCo) (wrt rs f (k + 1)) := mS_max _ hc.1 _ _ hm (by rw [hw, Nat.mul_comm]; omega)
    have := bS_least (v := (rs.getD k zCo).vl.toNat) (n := wrt rs f (k + 1)) (rwS_low rs k) (mS (rs.getD k zCo) (wrt rs f (k + 1)) + 1) (f k) (by omega) (by rw [he]; exact ih.1)
    rw [he] at this
    unfold nxS
    have e : (cnt f (k + 1) : Int) = (cnt f k : Int) + (f k : Int) := by show ((cnt f k + f k : Nat) : Int) = _; omega
    rw [e]
    omega
/-- What is told, as counts. -/
def tkF (rs : List RCo) (due : Nat) (i : Nat) : Nat := tkS rs due (rs.length - 1 - i)
/-- From the last kind on: what is left is made of the kinds ahead, with just as many coins as the row tells. -/
theorem way_back (rs : List RCo) (hr : ∀ r ∈ rs, 1 ≤ r.vl ∧ r.vl ≤ 100000 ∧ 0 ≤ r.ct ∧ r.ct ≤ 60) (due : Nat) (h0 : 0 ≤ rwS rs rs.length due) : ∀ k, k ≤ rs.length → wrt rs (tkF rs due) k = lfS rs due (rs.length - k) ∧ (cnt (tkF rs due) k : Int) = rwS rs k (lfS rs due (rs.length - k))
  | 0, _ => by
    have h := (lf_way rs hr due h0 rs.length (Nat.le_refl _)).2.1
    rw [Nat.sub_self] at h
    rw [Nat.sub_zero]
    have h1 : 0 ≤ r0S (lfS rs due rs.length) := h
    have e : lfS rs due rs.length = 0 := by
      unfold r0S at h1
      by_cases e : lfS rs due rs.length = 0
      · exact e
      · rw [if_neg e] at h1; omega
    rw [e]
    exact ⟨rfl, rfl⟩
  | k + 1, hk => by
    have ih := way_back rs hr due h0 k (by omega)
    have hj := (lf_way rs hr due h0 (rs.length - (k + 1)) (by omega)).2.2 (by omega)
    have hst := lfS_step rs due (rs.length - (k + 1))
    have e1 : rs.length - (rs.length - (k + 1) + 1) = k := by omega
    have e2 : rs.length - (k + 1) + 1 = rs.length - k := by omega
    rw [e1] at hj
    rw [e2, show rs.length - (rs.length - k) = k by omega] at hst
    have et : tkF rs due k = tkS rs due (rs.length - (k + 1)) := by unfold tkF; rw [show rs.length - 1 - k = rs.length - (k + 1) by omega]
    unfold doesS at hj
    rw [Bool.and_eq_true, Bool.and_eq_true] at hj
    have j1 := of_decide_eq_true hj.1
    have j3 := of_decide_eq_true hj.2.2
    rw [← hst] at j3
    show wrt rs (tkF rs due) k + (rs.getD k zCo).vl.toNat * tkF rs due k = _ ∧ ((cnt (tkF rs due) k + tkF rs due k : Nat) : Int) = _
    rw [et, ih.1, Nat.mul_comm]
    refine ⟨by omega, ?_⟩
    rw [← j3]
    have := ih.2
    omega
theorem tk_count (rs : List RCo) (hr : ∀ r ∈ rs, 1 ≤ r.vl ∧ r.vl ≤ 100000 ∧ 0 ≤ r.ct ∧ r.ct ≤ 60) (due i : Nat) (hi : i < rs.length) : tkF rs due i ≤ (rs.getD i zCo).ct.toNat := by
  unfold tkF tkS
  dsimp only
  have e : rs.length - (rs.length - 1 - i + 1) = i := by omega
  rw [e]
  have h1 := pick_le (rwS rs i) (rs.getD i zCo).vl.toNat (lfS rs due (rs.length - 1 - i)) (rwS rs (i + 1) (lfS rs due (rs.length - 1 - i))) (mS (rs.getD i zCo) (lfS rs due (rs.length - 1 - i)))
  have h2 : mS (rs.getD i zCo) (lfS rs due (rs.length - 1 - i)) ≤ (rs.getD i zCo).ct.toNat := by unfold mS; omega
  omega
/-- All of it: some counts that are held come to due: Change has no code, and its list comes to due with no more coins. -/
theorem change_some (rs : List RCo) (h : heAll rs = true) (f : Nat → Nat) (hf : ∀ i, i < rs.length → f i ≤ (rs.getD i zCo).ct.toNat) (hd : wrt rs f rs.length ≤ 10000) :
    chCode (wrt rs f rs.length : Int) rs = 0 ∧ wrt rs (tkF rs (wrt rs f rs.length)) rs.length = wrt rs f rs.length ∧ cnt (tkF rs (wrt rs f rs.length)) rs.length ≤ cnt f rs.length ∧ ∀ i, i < rs.length → tkF rs (wrt rs f rs.length) i ≤ (rs.getD i zCo).ct.toNat := by
  obtain ⟨h12, hr⟩ := heAll_mem h
  have hm := rwS_most rs hr f hf rs.length (Nat.le_refl _)
  have hw := way_back rs hr (wrt rs f rs.length) hm.1 rs.length (Nat.le_refl _)
  rw [Nat.sub_self] at hw
  have hl : lfS rs (wrt rs f rs.length) 0 = wrt rs f rs.length := rfl
  rw [hl] at hw
  refine ⟨?_, hw.1, by omega, fun i hi => tk_count rs hr _ i hi⟩
  unfold chCode
  rw [if_neg (by omega), if_neg (by rw [h]; simp), if_neg (by omega), Int.toNat_natCast, if_neg (by omega)]
end Go.Proofs.Ytngnmlifbjpkoaa
