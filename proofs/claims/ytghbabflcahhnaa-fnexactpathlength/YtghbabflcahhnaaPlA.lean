/-
  Orders of picks as mathematics: when a list has each number below n once, how long a way is; nothing of the program is in it.
-/
import Derived.Test.YtghbabflcahhnaaPkC
import Derived.Test.YtghbabflcahhnaaPlV
namespace Go.Proofs.Ytghbabflcahhnaa
open Go.ChangeShapes Go.WideShapes Go.ChangeAt Go.RowKit Go.Joins Go.Deep
set_option linter.unusedVariables false

def numZ (k : Nat) : List Int := (List.range k).map fun (i : Nat) => (i : Int)
theorem numZ_next (k : Nat) : numZ k ++ [(k : Int)] = numZ (k + 1) := by simp [numZ, List.range_succ]
theorem numZ_length (k : Nat) : (numZ k).length = k := by simp [numZ]
theorem numZ_get (n k : Nat) (h : k < n) : (numZ n).getD k 0 = (k : Int) := by simp [numZ, List.getD_eq_getElem?_getD, h]
theorem numZ_mem (n : Nat) (x : Int) : x ∈ numZ n ↔ 0 ≤ x ∧ x < (n : Int) := by
  unfold numZ
  rw [List.mem_map]
  constructor
  · rintro ⟨k, hk, rfl⟩
    rw [List.mem_range] at hk
    omega
  · rintro ⟨h1, h2⟩
    exact ⟨x.toNat, List.mem_range.2 (by omega), by omega⟩
theorem numZ_nodup (n : Nat) : (numZ n).Nodup := by
  unfold numZ
  rw [List.Nodup, List.pairwise_map]
  exact (List.nodup_range (n := n)).imp (fun h e => h (by omega))
/-- Each number below n once. -/
def onB (L : List Int) (n : Nat) : Bool := L.mergeSort leI' == numZ n
/-- The same, as it is checked number by number. -/
structure OnP (L : List Int) (n : Nat) : Prop where
  len : L.length = n
  inn : ∀ x ∈ L, 0 ≤ x ∧ x ≤ (n : Int) - 1
  one : L.Nodup
theorem rise_ge {L : List Int} (h : L.Pairwise (· < ·)) : ∀ i (hi : i < L.length), ∀ j (hj : j < L.length), i ≤ j → L[i] + ((j - i : Nat) : Int) ≤ L[j] := by
  intro i hi j hj hij
  induction j with
  | zero => have : i = 0 := by omega
            subst this; simp
  | succ j ih =>
    by_cases e : i = j + 1
    · subst e; simp
    · have h1 := ih (by omega) (by omega)
      have h2 : L[j] < L[j + 1] := (List.pairwise_iff_getElem.1 h) j (j + 1) (by omega) hj (by omega)
      omega
theorem le_tr : ∀ a b c : Int, leI' a b = true → leI' b c = true → leI' a c = true := fun a b c h1 h2 => by simp only [leI', decide_eq_true_eq] at *; exact Int.le_trans h1 h2
theorem le_to : ∀ a b : Int, (leI' a b || leI' b a) = true := fun a b => by simp only [leI', Bool.or_eq_true, decide_eq_true_eq]; exact Int.le_total a b
theorem on_iff (L : List Int) (n : Nat) : onB L n = true ↔ OnP L n := by
  have hp := List.mergeSort_perm L leI'
  unfold onB
  rw [beq_iff_eq]
  constructor
  · intro h
    rw [h] at hp
    refine ⟨by rw [← hp.length_eq, numZ_length], fun x hx => ?_, ?_⟩
    · have := (numZ_mem n x).1 (hp.mem_iff.2 hx)
      omega
    · exact hp.nodup_iff.1 (numZ_nodup n)
  · intro h
    have hs := List.pairwise_mergeSort le_tr le_to L
    have hn : (L.mergeSort leI').Nodup := hp.nodup_iff.2 h.one
    have hr : (L.mergeSort leI').Pairwise (· < ·) := (hs.and hn).imp (fun {a b} q => by
      have h1 : a ≤ b := by simpa [leI'] using q.1
      have h2 : a ≠ b := q.2
      omega)
    have hl : (L.mergeSort leI').length = n := by rw [hp.length_eq, h.len]
    have hb : ∀ x ∈ L.mergeSort leI', 0 ≤ x ∧ x ≤ (n : Int) - 1 := fun x hx => h.inn x (hp.mem_iff.1 hx)
    generalize L.mergeSort leI' = S at hr hl hb
    refine List.ext_getElem (by rw [hl, numZ_length]) (fun i h1 h2 => ?_)
    have e1 := rise_ge hr 0 (by omega) i h1 (by omega)
    have e2 := rise_ge hr i h1 (n - 1) (by omega) (by omega)
    have b1 := hb _ (List.getElem_mem (l := S) (n := 0) (by omega))
    have b2 := hb _ (List.getElem_mem (l := S) (n := n - 1) (by omega))
    have e3 : (numZ n)[i] = (i : Int) := by simp [numZ]
    rw [e3]
    omega
theorem on_false {L : List Int} {n : Nat} (h : ¬ OnP L n) : onB L n = false := by
  cases e : onB L n
  · rfl
  · exact absurd ((on_iff L n).1 e) h
theorem nodup_snoc {L : List Int} {x : Int} (h : L.Nodup) (hx : x ∉ L) : (L ++ [x]).Nodup := by
  rw [List.nodup_append]
  exact ⟨h, by simp, fun a ha b hb e => by simp at hb; subst hb; subst e; exact hx ha⟩
/-- How long it is from a spot over picks in an order, and back. -/
def wyN (p g : Int) (rs : List RPt) : RPt → List Int → Int
  | at', [] => farN p g at' zPt
  | at', o :: os => farN p g at' (rs.getD o.toNat zPt) + wyN p g rs (rs.getD o.toNat zPt) os
theorem sp_z {a p g : Int} (h : hlB a p g = true) : spB a p zPt = true := by
  obtain ⟨h1, h2, h3⟩ := hl_facts h
  unfold spB inB zPt
  simp only [Bool.and_eq_true, decide_eq_true_eq]
  omega
theorem sp_get {a p g : Int} {rs : List RPt} (h : hlB a p g = true) (hs : spsB a p rs = true) (k : Nat) : spB a p (rs.getD k zPt) = true := by
  by_cases hk : k < rs.length
  · have e : rs.getD k zPt = rs[k] := by simp [List.getD_eq_getElem?_getD, hk]
    rw [e]; exact sps_mem hs _ (List.getElem_mem _)
  · rw [List.getD_eq_getElem?_getD, List.getElem?_eq_none (by omega)]; exact sp_z h
theorem wy_bd {a p g : Int} {rs : List RPt} (h : hlB a p g = true) (hs : spsB a p rs = true) : ∀ (os : List Int) (q : RPt), spB a p q = true → 0 ≤ wyN p g rs q os ∧ wyN p g rs q os ≤ 2300 * ((os.length : Int) + 1)
  | [], q, hq => by
    have := farN_bd h hq (sp_z h)
    unfold wyN
    simp only [List.length_nil]
    omega
  | o :: os, q, hq => by
    have h1 := farN_bd h hq (sp_get h hs o.toNat)
    have h2 := wy_bd h hs os _ (sp_get h hs o.toNat)
    unfold wyN
    simp only [List.length_cons]
    omega
theorem wy_drop (p g : Int) (rs : List RPt) (os : List Int) (q : RPt) (k : Nat) (hk : k < os.length) : wyN p g rs q (os.drop k) = farN p g q (rs.getD (os.getD k 0).toNat zPt) + wyN p g rs (rs.getD (os.getD k 0).toNat zPt) (os.drop (k + 1)) := by
  have e : os.getD k 0 = os[k] := by simp [List.getD_eq_getElem?_getD, hk]
  rw [List.drop_eq_getElem_cons hk, e]
  rfl
/-- What PathLength answers. -/
def plC (a p g : Int) (rs : List RPt) (os : List Int) : Int := if 4096 < rs.length ∨ 4096 < os.length then 2 else if 9 < rs.length then 9 else if (hlB a p g && spsB a p rs) = true then (if onB os rs.length = true then 0 else 3) else 1
def plV (a p g : Int) (rs : List RPt) (os : List Int) : Int := if plC a p g rs os = 0 then wyN p g rs zPt os else 0
def pkC (a p g : Int) (rs : List RPt) : Int := if 9 < rs.length then 9 else if (hlB a p g && spsB a p rs) = true then 0 else 1
theorem pl_ways (a p g : Int) (rs : List RPt) (os : List Int) : ((4096 < rs.length ∨ 4096 < os.length) ∧ plC a p g rs os = 2 ∧ plV a p g rs os = 0) ∨
    (rs.length ≤ 4096 ∧ os.length ≤ 4096 ∧ 9 < rs.length ∧ plC a p g rs os = 9 ∧ plV a p g rs os = 0) ∨
    (rs.length ≤ 9 ∧ os.length ≤ 4096 ∧ (hlB a p g && spsB a p rs) = false ∧ plC a p g rs os = 1 ∧ plV a p g rs os = 0) ∨
    (rs.length ≤ 9 ∧ os.length ≤ 4096 ∧ hlB a p g = true ∧ spsB a p rs = true ∧ onB os rs.length = false ∧ plC a p g rs os = 3 ∧ plV a p g rs os = 0) ∨
    (rs.length ≤ 9 ∧ os.length ≤ 4096 ∧ hlB a p g = true ∧ spsB a p rs = true ∧ onB os rs.length = true ∧ plC a p g rs os = 0 ∧ plV a p g rs os = wyN p g rs zPt os) := by
  by_cases h1 : 4096 < rs.length ∨ 4096 < os.length
  · have e : plC a p g rs os = 2 := by unfold plC; rw [if_pos h1]
    exact .inl ⟨h1, e, by unfold plV; rw [e]; rfl⟩
  by_cases h2 : 9 < rs.length
  · have e : plC a p g rs os = 9 := by unfold plC; rw [if_neg h1, if_pos h2]
    exact .inr (.inl ⟨by omega, by omega, h2, e, by unfold plV; rw [e]; rfl⟩)
  cases h3 : (hlB a p g && spsB a p rs)
  · have e : plC a p g rs os = 1 := by unfold plC; rw [if_neg h1, if_neg h2, h3]; rfl
    exact .inr (.inr (.inl ⟨by omega, by omega, rfl, e, by unfold plV; rw [e]; rfl⟩))
  · have h3' := h3
    simp only [Bool.and_eq_true] at h3'
    cases h4 : onB os rs.length
    · have e : plC a p g rs os = 3 := by unfold plC; rw [if_neg h1, if_neg h2, h3, h4]; rfl
      exact .inr (.inr (.inr (.inl ⟨by omega, by omega, h3'.1, h3'.2, rfl, e, by unfold plV; rw [e]; rfl⟩)))
    · have e : plC a p g rs os = 0 := by unfold plC; rw [if_neg h1, if_neg h2, h3, h4]; rfl
      exact .inr (.inr (.inr (.inr ⟨by omega, by omega, h3'.1, h3'.2, rfl, e, by unfold plV; rw [e]; rfl⟩)))
end Go.Proofs.Ytghbabflcahhnaa
