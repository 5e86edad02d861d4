/-
  The mathematics of terms that can not all hold: what is kept of them, and that each is needed.
-/
import Derived.Test.YtfofdeenpcbglaaRwA
import Derived.Test.YtfofdeenpcbglaaRdA
namespace Go.Proofs.Ytfofdeenpcbglaa
set_option linter.unusedVariables false

theorem canT_iff (ts : List RTm) : canT ts = true ↔ ∀ i : Nat, 1 ≤ i → i ≤ 5 → lowT (i : Int) ts ≤ highT (i : Int) ts := by
  unfold canT
  rw [emptyL_rm]
  simp only [Bool.not_eq_true', Bool.or_eq_false_iff, decide_eq_false_iff_not, Int.not_lt]
  constructor
  · rintro ⟨h1, h2, h3, h4, h5⟩ i hi hi'
    rcases (by omega : i = 1 ∨ i = 2 ∨ i = 3 ∨ i = 4 ∨ i = 5) with rfl | rfl | rfl | rfl | rfl
    · exact h1
    · exact h2
    · exact h3
    · exact h4
    · exact h5
  · intro h
    exact ⟨h 1 (by omega) (by omega), h 2 (by omega) (by omega), h 3 (by omega) (by omega), h 4 (by omega) (by omega), h 5 (by omega) (by omega)⟩
theorem lowT_sub (f : Int) {ts us : List RTm} (h : ∀ t ∈ us, t ∈ ts) : lowT f us ≤ lowT f ts := by
  have q := (foldL_le_iff f (lowT f ts) ts (loF f)).1 (Int.le_refl _)
  exact (foldL_le_iff f (lowT f ts) us (loF f)).2 ⟨q.1, fun t ht => q.2 t (h t ht)⟩
theorem highT_sub (f : Int) {ts us : List RTm} (h : ∀ t ∈ us, t ∈ ts) : highT f ts ≤ highT f us := by
  have q := (foldH_ge_iff f (highT f ts) ts (hiF f)).1 (Int.le_refl _)
  exact (foldH_ge_iff f (highT f ts) us (hiF f)).2 ⟨q.1, fun t ht => q.2 t (h t ht)⟩
theorem canT_sub {ts us : List RTm} (h : ∀ t ∈ us, t ∈ ts) (hc : canT ts = true) : canT us = true := by
  rw [canT_iff] at *
  intro i h1 h2
  have := hc i h1 h2
  have := lowT_sub (i : Int) h
  have := highT_sub (i : Int) h
  omega
/-- The least facts of terms that can all hold: the terms hold with them. -/
def lowF (ts : List RTm) : List Int := [0, lowT 1 ts, lowT 2 ts, lowT 3 ts, lowT 4 ts, lowT 5 ts]
theorem lowF_at (ts : List RTm) (i : Nat) (h : 1 ≤ i) (h' : i ≤ 5) : (lowF ts).getD i 0 = lowT (i : Int) ts := by
  rcases (by omega : i = 1 ∨ i = 2 ∨ i = 3 ∨ i = 4 ∨ i = 5) with rfl | rfl | rfl | rfl | rfl <;> rfl
theorem lowF_has {ts : List RTm} (h : canT ts = true) : hasL (rm ts) (lowF ts) = true ∧ hasL (rm []) (lowF ts) = true := by
  have q := (canT_iff ts).1 h
  refine ⟨(hasL_iff ts _ rfl).2 (fun i h1 h2 => ?_), (hasL_iff [] _ rfl).2 (fun i h1 h2 => ?_)⟩
  · rw [lowF_at _ _ h1 h2]; exact ⟨Int.le_refl _, q i h1 h2⟩
  · rw [lowF_at _ _ h1 h2]
    exact ⟨lowT_sub _ (by simp), Int.le_trans (q i h1 h2) (highT_sub _ (by simp))⟩
theorem lowF_fires {ts : List RTm} (hok : ∀ t ∈ ts, tmB t = true) (h : canT ts = true) : fireB (lowF ts) ts = true := by
  rw [← has_fires ts _ rfl hok (lowF_has h).2]; exact (lowF_has h).1
theorem fires_can {ts : List RTm} {F : List Int} (h0 : F.getD 0 0 = 0) (hok : ∀ t ∈ ts, tmB t = true) (hF : hasL (rm []) F = true) (h : fireB F ts = true) : canT ts = true := by
  rw [← has_fires ts F h0 hok hF] at h
  have q := (hasL_iff ts F h0).1 h
  exact (canT_iff ts).2 (fun i h1 h2 => Int.le_trans (q i h1 h2).1 (q i h1 h2).2)
theorem pickT_mem {ts : List RTm} {ns : List Nat} {t : RTm} (h : t ∈ pickT ts ns) : ∃ i ∈ ns, t = ts.getD i zTm := by
  obtain ⟨i, hi, e⟩ := List.mem_map.1 h
  exact ⟨i, hi, e.symm⟩
theorem pickT_sub {ts : List RTm} {ns ms : List Nat} (h : ∀ i ∈ ns, i ∈ ms) : ∀ t ∈ pickT ts ns, t ∈ pickT ts ms := fun t ht => by
  obtain ⟨i, hi, rfl⟩ := pickT_mem ht
  exact List.mem_map.2 ⟨i, h i hi, rfl⟩
theorem pickT_range (ts : List RTm) : pickT ts (List.range ts.length) = ts := by
  apply List.ext_getElem (by simp [pickT])
  intro i h1 h2
  simp [pickT, List.getD_eq_getElem?_getD, h2]
theorem coreR_rise (ts : List RTm) : ∀ d, d ≤ ts.length → (coreR ts d).Pairwise (· < ·)
  | 0, _ => List.Pairwise.nil
  | d + 1, h => by
    have ih := coreR_rise ts d (by omega)
    unfold coreR
    split
    · refine List.Pairwise.cons (fun x hx => ?_) ih
      have := coreR_in ts d (by omega) x hx
      omega
    · exact ih
theorem left_no {ts : List RTm} (h : canT ts = false) : ∀ d, d ≤ ts.length → canT (pickT ts (leftN ts d)) = false
  | 0, _ => by rw [leftN_zero, pickT_range]; exact h
  | d + 1, hd => by
    have ih := left_no h d (by omega)
    cases hc : canT (pickT ts (lessN ts d)) with
    | true => rw [leftN_yes (by omega) hc]; exact ih
    | false => rw [leftN_no (by omega) hc]; exact hc
theorem core_no {ts : List RTm} (h : canT ts = false) : canT (pickT ts (coreR ts ts.length)) = false := by
  have := left_no h ts.length (Nat.le_refl _)
  rwa [leftN_all] at this
/-- Without a number of what is kept the rest can hold. -/
theorem core_need (ts : List RTm) : ∀ d, d ≤ ts.length → ∀ x ∈ coreR ts d, ∀ ns : List Nat, (∀ i ∈ ns, i ≠ x ∧ (i < ts.length - d ∨ i ∈ coreR ts d)) → canT (pickT ts ns) = true
  | 0, _, x, hx, _, _ => by simp [coreR] at hx
  | d + 1, hd, x, hx, ns, hns => by
    have ih := core_need ts d (by omega)
    by_cases hc : canT (pickT ts (lessN ts d)) = true
    · have e : coreR ts (d + 1) = (ts.length - 1 - d) :: coreR ts d := if_pos hc
      rw [e] at hx hns
      rcases List.mem_cons.1 hx with rfl | hx
      · refine canT_sub (pickT_sub (fun i hi => ?_)) hc
        obtain ⟨k1, k2⟩ := hns i hi
        unfold lessN
        rw [List.mem_append, List.mem_range]
        rcases k2 with k2 | k2
        · left; omega
        · rcases List.mem_cons.1 k2 with k2 | k2
          · exact absurd k2 k1
          · exact .inr k2
      · refine ih x hx ns (fun i hi => ⟨(hns i hi).1, ?_⟩)
        rcases (hns i hi).2 with k | k
        · left; omega
        · rcases List.mem_cons.1 k with k | k
          · left; omega
          · exact .inr k
    · have e : coreR ts (d + 1) = coreR ts d := if_neg hc
      rw [e] at hx hns
      refine ih x hx ns (fun i hi => ⟨(hns i hi).1, ?_⟩)
      rcases (hns i hi).2 with k | k
      · left; omega
      · exact .inr k
theorem canT_one {t : RTm} (h : tmB t = true) : canT [t] = true := by
  obtain ⟨⟨h1, h2⟩, ⟨h3, h4⟩, h5, h6⟩ := tmB_iff.mp h
  rw [canT_iff]
  intro i hi hi'
  have e : loF (i : Int) ≤ hiF (i : Int) := by
    rcases (by omega : i = 1 ∨ i = 2 ∨ i = 3 ∨ i = 4 ∨ i = 5) with rfl | rfl | rfl | rfl | rfl <;> decide
  show stepL i (loF i) t ≤ stepH i (hiF i) t
  unfold stepL stepH
  by_cases hf : t.fd = (i : Int)
  · rw [hf] at h5 h6
    split <;> split <;> omega
  · rw [if_neg (fun q => hf q.1), if_neg (fun q => hf q.1)]; exact e
theorem canT_nil : canT [] = true := by decide
theorem core_two {ts : List RTm} (hok : ∀ t ∈ ts, tmB t = true) (h : canT ts = false) : 2 ≤ (coreR ts ts.length).length := by
  have hc := core_no h
  match hl : coreR ts ts.length with
  | [] => rw [hl] at hc; rw [show pickT ts [] = [] from rfl, canT_nil] at hc; cases hc
  | [x] =>
    have hx := (coreR_in ts ts.length (Nat.le_refl _) x (by rw [hl]; simp)).2
    rw [hl] at hc
    have e : ts.getD x zTm = ts[x] := by simp [List.getD_eq_getElem?_getD, hx]
    have := canT_one (hok _ (List.getElem_mem hx))
    rw [show pickT ts [x] = [ts.getD x zTm] from rfl, e, this] at hc
    cases hc
  | x :: y :: r => simp
end Go.Proofs.Ytfofdeenpcbglaa
