/-
  Orders of picks as mathematics: when a list has each number below n once, how long a way is; nothing of the program is in it.
-/
import Derived.Test.YthmhpgbkapjjkaaPkC
import Derived.Test.YthmhpgbkapjjkaaPlO
namespace Go.Proofs.Ythmhpgbkapjjkaa
open Go.ChangeShapes Go.WideShapes Go.ChangeAt Go.RowKit Go.Joins Go.Deep
set_option linter.unusedVariables false

/-- How long it is from a spot over picks in an order, and back. -/
def wyN (p g : Int) (rs : List RPt) : RPt → List Int → Int
  | at', [] => farN p g at' zPt
  | at', o :: os => farN p g at' (rs.getD o.toNat zPt) + wyN p g rs (rs.getD o.toNat zPt) os
theorem sp_z {a p g : Int} (h : hlB a p g = true) : spB a p zPt = true := by
  obtain ⟨h1, h2, h3⟩ := hl_facts h
  unfold spB inB zPt
  simp only [Bool.and_eq_true, decide_eq_true_eq]
  omega
theorem sp_get {a p g : Int} {rs : List RPt} (h : hlB a p g = true) (hs : spsB a p rs = true) (k : Nat) : spB a p (rs.getD k zPt) = true := by
  by_cases hk : k < rs.length
  · have e : rs.getD k zPt = rs[k] := by simp [List.getD_eq_getElem?_getD, hk]
    rw [e]; exact sps_mem hs _ (List.getElem_mem _)
  · rw [List.getD_eq_getElem?_getD, List.getElem?_eq_none (by omega)]; exact sp_z h
theorem wy_bd {a p g : Int} {rs : List RPt} (h : hlB a p g = true) (hs : spsB a p rs = true) : ∀ (os : List Int) (q : RPt), spB a p q = true → 0 ≤ wyN p g rs q os ∧ wyN p g rs q os ≤ 2300 * ((os.length : Int) + 1)
  | [], q, hq => by
    have := farN_bd h hq (sp_z h)
    unfold wyN
    simp only [List.length_nil]
    omega
  | o :: os, q, hq => by
    have h1 := farN_bd h hq (sp_get h hs o.toNat)
    have h2 := wy_bd h hs os _ (sp_get h hs o.toNat)
    unfold wyN
    simp only [List.length_cons]
    omega
theorem wy_drop (p g : Int) (rs : List RPt) (os : List Int) (q : RPt) (k : Nat) (hk : k < os.length) : wyN p g rs q (os.drop k) = farN p g q (rs.getD (os.getD k 0).toNat zPt) + wyN p g rs (rs.getD (os.getD k 0).toNat zPt) (os.drop (k + 1)) := by
  have e : os.getD k 0 = os[k] := by simp [List.getD_eq_getElem?_getD, hk]
  rw [List.drop_eq_getElem_cons hk, e]
  rfl
/-- What PathLength answers. -/
def plC (a p g : Int) (rs : List RPt) (os : List Int) : Int := if 4096 < rs.length ∨ 4096 < os.length then 2 else if 9 < rs.length then 9 else if (hlB a p g && spsB a p rs) = true then (if onB os rs.length = true then 0 else 3) else 1
def plV (a p g : Int) (rs : List RPt) (os : List Int) : Int := if plC a p g rs os = 0 then wyN p g rs zPt os else 0
def pkC (a p g : Int) (rs : List RPt) : Int := if 9 < rs.length then 9 else if (hlB a p g && spsB a p rs) = true then 0 else 1
theorem pl_ways (a p g : Int) (rs : List RPt) (os : List Int) : ((4096 < rs.length ∨ 4096 < os.length) ∧ plC a p g rs os = 2 ∧ plV a p g rs os = 0) ∨
    (rs.length ≤ 4096 ∧ os.length ≤ 4096 ∧ 9 < rs.length ∧ plC a p g rs os = 9 ∧ plV a p g rs os = 0) ∨
    (rs.length ≤ 9 ∧ os.length ≤ 4096 ∧ (hlB a p g && spsB a p rs) = false ∧ plC a p g rs os = 1 ∧ plV a p g rs os = 0) ∨
    (rs.length ≤ 9 ∧ os.length ≤ 4096 ∧ hlB a p g = true ∧ spsB a p rs = true ∧ onB os rs.length = false ∧ plC a p g rs os = 3 ∧ plV a p g rs os = 0) ∨
    (rs.length ≤ 9 ∧ os.length ≤ 4096 ∧ hlB a p g = true ∧ spsB a p rs = true ∧ onB os rs.length = true ∧ plC a p g rs os = 0 ∧ plV a p g rs os = wyN p g rs zPt os) := by
  by_cases h1 : 4096 < rs.length ∨ 4096 < os.length
  · have e : plC a p g rs os = 2 := by unfold plC; rw [if_pos h1]
    exact .inl ⟨h1, e, by unfold plV; rw [e]; rfl⟩
  by_cases h2 : 9 < rs.length
  · have e : plC a p g rs os = 9 := by unfold plC; rw [if_neg h1, if_pos h2]
    exact .inr (.inl ⟨by omega, by omega, h2, e, by unfold plV; rw [e]; rfl⟩)
  cases h3 : (hlB a p g && spsB a p rs)
  · have e : plC a p g rs os = 1 := by unfold plC; rw [if_neg h1, if_neg h2, h3]; rfl
    exact .inr (.inr (.inl ⟨by omega, by omega, rfl, e, by unfold plV; rw [e]; rfl⟩))
  · have h3' := h3
    simp only [Bool.and_eq_true] at h3'
    cases h4 : onB os rs.length
    · have e : plC a p g rs os = 3 := by unfold plC; rw [if_neg h1, if_neg h2, h3, h4]; rfl
      exact .inr (.inr (.inr (.inl ⟨by omega, by omega, h3'.1, h3'.2, rfl, e, by unfold plV; rw [e]; rfl⟩)))
    · have e : plC a p g rs os = 0 := by unfold plC; rw [if_neg h1, if_neg h2, h3, h4]; rfl
      exact .inr (.inr (.inr (.inr ⟨by omega, by omega, h3'.1, h3'.2, rfl, e, by unfold plV; rw [e]; rfl⟩)))
end Go.Proofs.Ythmhpgbkapjjkaa
