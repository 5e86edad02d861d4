/-
  The search for the route that is back first, as mathematics: orders from the least on, strictly earlier ones kept.
-/
import Derived.Test.YtoogphkojofkfaaRvD
namespace Go.Proofs.Ytoogphkojofkfaa
open Go.ChangeShapes Go.WideShapes Go.ChangeAt Go.RowKit Go.Joins Go.Deep
set_option linter.unusedVariables false

/-- When the route in an order is back. -/
def enR (rs : List RHp) (b : Int) (L : List Int) : Int := endT (trp rs b L)
/-- The one that is back first so far. -/
def updR (rs : List RHp) (b : Int) (B : Option (List Int)) (c : List Int) : Option (List Int) := match B with
  | none => some c
  | some o => if enR rs b c < enR rs b o then some c else some o
theorem updR_none (rs : List RHp) (b : Int) (c : List Int) : updR rs b none c = some c := rfl
theorem updR_lt {rs : List RHp} {b : Int} {o c : List Int} (h : enR rs b c < enR rs b o) : updR rs b (some o) c = some c := by unfold updR; simp only; rw [if_pos h]
theorem updR_ge {rs : List RHp} {b : Int} {o c : List Int} (h : ¬ enR rs b c < enR rs b o) : updR rs b (some o) c = some o := by unfold updR; simp only; rw [if_neg h]
/-- The places below n that an order has not. -/
def lfR (L : List Int) (n : Nat) : List Nat := (List.range n).filter fun i => !hasI L (i : Int)
theorem lfR_next (L : List Int) (n : Nat) : lfR L (n + 1) = lfR L n ++ (if hasI L (n : Int) = true then [] else [n]) := by
  unfold lfR
  rw [List.range_succ, List.filter_append]
  cases h : hasI L (n : Int) <;> simp [h]
theorem lfR_mem (L : List Int) (n i : Nat) : i ∈ lfR L n ↔ i < n ∧ hasI L (i : Int) = false := by
  unfold lfR
  rw [List.mem_filter, List.mem_range]
  simp
def tyR (rs : List RHp) (b : Int) : Nat → List Int → Option (List Int) → Option (List Int)
  | 0, L, B => if (trp rs b L).ok = true then updR rs b B L else B
  | k + 1, L, B => if (trp rs b L).ok = true then (lfR L rs.length).foldl (fun B (i : Nat) => tyR rs b k (L ++ [(i : Int)]) B) B else B
/-- A step of the loop over the places. -/
def stR (rs : List RHp) (b : Int) (k : Nat) (L : List Int) (B : Option (List Int)) (i : Nat) : Option (List Int) := (lfR L i).foldl (fun B (i : Nat) => tyR rs b k (L ++ [(i : Int)]) B) B
theorem stR_zero (rs : List RHp) (b : Int) (k : Nat) (L : List Int) (B : Option (List Int)) : stR rs b k L B 0 = B := rfl
theorem stR_skip {rs : List RHp} {b : Int} {k : Nat} {L : List Int} {B : Option (List Int)} {i : Nat} (h : hasI L (i : Int) = true) : stR rs b k L B (i + 1) = stR rs b k L B i := by
  unfold stR; rw [lfR_next, if_pos h, List.append_nil]
theorem stR_take {rs : List RHp} {b : Int} {k : Nat} {L : List Int} {B : Option (List Int)} {i : Nat} (h : hasI L (i : Int) = false) : stR rs b k L B (i + 1) = tyR rs b k (L ++ [(i : Int)]) (stR rs b k L B i) := by
  unfold stR; rw [lfR_next, if_neg (by simp [h]), List.foldl_append]; rfl
theorem tyR_late {rs : List RHp} {b : Int} {k : Nat} {L : List Int} {B : Option (List Int)} (h : (trp rs b L).ok = false) : tyR rs b k L B = B := by
  cases k <;> (unfold tyR; rw [if_neg (by simp [h])])
theorem tyR_end {rs : List RHp} {b : Int} {L : List Int} {B : Option (List Int)} (h : (trp rs b L).ok = true) : tyR rs b 0 L B = updR rs b B L := by unfold tyR; rw [if_pos h]
theorem tyR_more {rs : List RHp} {b : Int} {k : Nat} {L : List Int} {B : Option (List Int)} (h : (trp rs b L).ok = true) : tyR rs b (k + 1) L B = stR rs b k L B rs.length := by unfold tyR; rw [if_pos h]; rfl
/-- An order that is kept has been to all. -/
theorem tyR_len (rs : List RHp) (b : Int) (n : Nat) : ∀ (k : Nat) (L : List Int) (B : Option (List Int)), L.length + k = n → (∀ o, B = some o → o.length = n) → ∀ o, tyR rs b k L B = some o → o.length = n
  | 0, L, B, hl, hB, o, h => by
    cases hk : (trp rs b L).ok
    · rw [tyR_late hk] at h; exact hB o h
    · rw [tyR_end hk] at h
      cases B with
      | none => rw [updR_none] at h; cases h; omega
      | some p =>
        by_cases hc : enR rs b L < enR rs b p
        · rw [updR_lt hc] at h; cases h; omega
        · rw [updR_ge hc] at h; exact hB o h
  | k + 1, L, B, hl, hB, o, h => by
    cases hk : (trp rs b L).ok
    · rw [tyR_late hk] at h; exact hB o h
    · rw [tyR_more hk] at h
      have key : ∀ m, ∀ o, stR rs b k L B m = some o → o.length = n := by
        intro m
        induction m with
        | zero => exact hB
        | succ m ih =>
          intro o ho
          cases hh : hasI L (m : Int)
          · rw [stR_take hh] at ho
            exact tyR_len rs b n k (L ++ [(m : Int)]) _ (by simp; omega) ih o ho
          · rw [stR_skip hh] at ho
            exact ih o ho
      exact key _ o h
/-! ### No detour is shorter -/
theorem farH_tri (a c d : RHp) : farH a d ≤ farH a c + farH c d := by unfold farH apN; omega
theorem endT_step {rs : List RHp} (hs : hpsB rs = true) (t : Trp) (o : Int) : endT t ≤ endT (stepT rs t o) := by
  have h1 := farH_tri t.h (rs.getD o.toNat zHp) zHp
  have h2 := (hp_facts (getD_ok hs o.toNat)).2.2.2.2.2
  unfold endT stepT lvN stN arN
  dsimp only
  omega
theorem enR_step {rs : List RHp} (hs : hpsB rs = true) (b : Int) (L : List Int) (o : Int) : enR rs b L ≤ enR rs b (L ++ [o]) := by
  unfold enR; rw [trp_snoc]; exact endT_step hs _ _
/-- Where going back at once would be no earlier, nothing that follows is. -/
theorem tyR_prune {rs : List RHp} (hs : hpsB rs = true) (b : Int) : ∀ (k : Nat) (L o : List Int), enR rs b o ≤ enR rs b L → tyR rs b k L (some o) = some o
  | 0, L, o, h => by
    cases hk : (trp rs b L).ok
    · exact tyR_late hk
    · rw [tyR_end hk, updR_ge (by omega)]
  | k + 1, L, o, h => by
    cases hk : (trp rs b L).ok
    · exact tyR_late hk
    · rw [tyR_more hk]
      have key : ∀ m, stR rs b k L (some o) m = some o := by
        intro m
        induction m with
        | zero => rfl
        | succ m ih =>
          cases hh : hasI L (m : Int)
          · rw [stR_take hh, ih]
            exact tyR_prune hs b k _ o (Int.le_trans h (enR_step hs b L _))
          · rw [stR_skip hh, ih]
      exact key _
/-- What BestRoute answers. -/
def brB (rs : List RHp) (b : Int) : Option (List Int) := tyR rs b rs.length [] none
def brC (rs : List RHp) (b : Int) : Int := if rfC rs b = 0 then (if brB rs b = none then 8 else 0) else rfC rs b
def brL (rs : List RHp) (b : Int) : List Int := if brC rs b = 0 then (brB rs b).getD [] else []
def brA (rs : List RHp) (b : Int) : List Int := if brC rs b = 0 then (trp rs b ((brB rs b).getD [])).A else []
def brW (rs : List RHp) (b : Int) : Int := if brC rs b = 0 then (trp rs b ((brB rs b).getD [])).wt else 0
def brE (rs : List RHp) (b : Int) : Int := if brC rs b = 0 then enR rs b ((brB rs b).getD []) else 0
theorem brB_len {rs : List RHp} {b : Int} {o : List Int} (h : brB rs b = some o) : o.length = rs.length := tyR_len rs b rs.length rs.length [] none (by simp) (fun o h => by cases h) o h
theorem brC_zero {rs : List RHp} {b : Int} (h : brC rs b = 0) : rfC rs b = 0 ∧ ∃ o, brB rs b = some o := by
  unfold brC at h
  by_cases h0 : rfC rs b = 0
  · rw [if_pos h0] at h
    refine ⟨h0, ?_⟩
    cases hb : brB rs b with
    | none => rw [hb] at h; simp at h
    | some o => exact ⟨o, rfl⟩
  · rw [if_neg h0] at h; exact absurd h h0
theorem brL_len (rs : List RHp) (b : Int) : (brL rs b).length ≤ 1048576 := by
  unfold brL
  split
  · rename_i h
    obtain ⟨h0, o, ho⟩ := brC_zero h
    have := brB_len ho
    have := (rf_zero h0).1
    rw [ho]
    simp
    omega
  · exact Nat.zero_le _
theorem brA_len (rs : List RHp) (b : Int) : (brA rs b).length ≤ 1048576 := by
  unfold brA
  split
  · rename_i h
    obtain ⟨h0, o, ho⟩ := brC_zero h
    have := brB_len ho
    have := (rf_zero h0).1
    rw [trp_len, ho]
    simp
    omega
  · exact Nat.zero_le _
theorem br_no {rs : List RHp} {b : Int} {c : Int} (h : brC rs b = c) (hc : c ≠ 0) : brL rs b = [] ∧ brA rs b = [] ∧ brW rs b = 0 ∧ brE rs b = 0 := by
  unfold brL brA brW brE
  rw [h]
  simp [hc]
theorem br_yes {rs : List RHp} {b : Int} {o : List Int} (h0 : rfC rs b = 0) (ho : brB rs b = some o) : brC rs b = 0 ∧ brL rs b = o ∧ brA rs b = (trp rs b o).A ∧ brW rs b = (trp rs b o).wt ∧ brE rs b = enR rs b o := by
  have h : brC rs b = 0 := by unfold brC; rw [if_pos h0, ho]; simp
  unfold brL brA brW brE
  rw [h, ho]
  simp
theorem br_none {rs : List RHp} {b : Int} (h0 : rfC rs b = 0) (ho : brB rs b = none) : brC rs b = 8 := by unfold brC; rw [if_pos h0, ho]; simp
theorem br_fault {rs : List RHp} {b : Int} (h0 : rfC rs b ≠ 0) : brC rs b = rfC rs b := by unfold brC; rw [if_neg h0]
end Go.Proofs.Ytoogphkojofkfaa
