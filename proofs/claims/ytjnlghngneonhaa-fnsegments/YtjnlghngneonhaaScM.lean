/-
  Segments read out of a text, as mathematics: three places where the reader may stand, one step from each.
-/
import Derived.Test.YtjnlghngneonhaaSbA
namespace Go.Proofs.Ytjnlghngneonhaa
open Go.ChangeShapes Go.WideShapes Go.ChangeAt Go.RowKit Go.Joins Go.Deep
set_option linter.unusedVariables false

/-- Where the reader stands: 0 a segment begins, 1 behind a tag or a part, 2 within a part. -/
structure RdS where
  lb : Nat
  pl : Nat
  out : List CSg
  tag : ByteArray
  ps : List ByteArray
  pt : List Int
/-- A letter stands there. -/
def letAt (t : ByteArray) (i : Nat) : Bool := decide (i < t.size) && letB ((byL t).getD i 0)
/-- Which of three letters is none. -/
def tagF (t : ByteArray) (i : Nat) : Option Nat := if letAt t i = false then some 0 else if letAt t (i + 1) = false then some 1 else if letAt t (i + 2) = false then some 2 else none
/-- One step: what is told, or where it stands then. -/
def rdStep (t : ByteArray) (s : RdS) : (Int × Nat × List CSg) ⊕ RdS :=
  let c := (byL t).getD s.pl 0
  if s.lb = 0 then
    if s.pl = t.size then .inl (0, 0, s.out)
    else if s.out.length = 200 then .inl (9, s.pl, [])
    else match tagF t s.pl with
      | some k => .inl (4, s.pl + k, [])
      | none => .inr ⟨1, s.pl + 3, s.out, t.extract s.pl (s.pl + 3), [], []⟩
  else if s.lb = 1 then
    if s.pl < t.size ∧ c = 39 then .inr ⟨0, s.pl + 1, s.out ++ [⟨s.tag, s.ps⟩], s.tag, s.ps, []⟩
    else if s.pl < t.size ∧ c = 43 then (if s.ps.length = 20 then .inl (9, s.pl, []) else .inr ⟨2, s.pl + 1, s.out, s.tag, s.ps, []⟩)
    else .inl (4, s.pl, [])
  else
    if s.pl = t.size then .inl (4, s.pl, [])
    else if c = 39 ∨ c = 43 then .inr ⟨1, s.pl, s.out, s.tag, s.ps ++ [txL s.pt], []⟩
    else if c = 63 then
      (if s.pl + 1 = t.size ∨ mkB ((byL t).getD (s.pl + 1) 0) = false then .inl (4, s.pl + 1, [])
      else if s.pt.length = 80 then .inl (5, s.pl + 1, []) else .inr ⟨2, s.pl + 2, s.out, s.tag, s.ps, s.pt ++ [(byL t).getD (s.pl + 1) 0]⟩)
    else if s.pt.length = 80 then .inl (5, s.pl, [])
    else .inr ⟨2, s.pl + 1, s.out, s.tag, s.ps, s.pt ++ [c]⟩
def muR (t : ByteArray) (s : RdS) : Nat := 3 * (t.size - s.pl) + (if s.lb = 0 ∨ s.lb = 1 then 0 else 1)
theorem letAt_lt {t : ByteArray} {i : Nat} (h : letAt t i = true) : i < t.size := by
  unfold letAt at h
  rw [Bool.and_eq_true] at h
  exact of_decide_eq_true h.1
theorem tagF_none {t : ByteArray} {i : Nat} (h : tagF t i = none) : letAt t i = true ∧ letAt t (i + 1) = true ∧ letAt t (i + 2) = true := by
  unfold tagF at h
  cases h0 : letAt t i
  · rw [h0] at h; simp at h
  · cases h1 : letAt t (i + 1)
    · rw [h0, h1] at h; simp at h
    · cases h2 : letAt t (i + 2)
      · rw [h0, h1, h2] at h; simp at h
      · exact ⟨rfl, rfl, rfl⟩
theorem step_mu {t : ByteArray} {s s' : RdS} (hp : s.pl ≤ t.size) (h : rdStep t s = .inr s') : muR t s' < muR t s ∧ s'.pl ≤ t.size := by
  unfold rdStep at h
  dsimp only at h
  by_cases l0 : s.lb = 0
  · rw [if_pos l0] at h
    by_cases e : s.pl = t.size
    · rw [if_pos e] at h; cases h
    · rw [if_neg e] at h
      by_cases e2 : s.out.length = 200
      · rw [if_pos e2] at h; cases h
      · rw [if_neg e2] at h
        cases hf : tagF t s.pl with
        | some k => rw [hf] at h; cases h
        | none =>
          rw [hf] at h
          have := letAt_lt (tagF_none hf).2.2
          simp only [Sum.inr.injEq] at h
          subst h
          unfold muR
          refine ⟨?_, by dsimp only; omega⟩
          dsimp only
          repeat' split
          all_goals omega
  · rw [if_neg l0] at h
    by_cases l1 : s.lb = 1
    · rw [if_pos l1] at h
      by_cases e : s.pl < t.size ∧ (byL t).getD s.pl 0 = 39
      · rw [if_pos e] at h
        simp only [Sum.inr.injEq] at h
        subst h
        unfold muR
        refine ⟨?_, by dsimp only; omega⟩
        dsimp only
        repeat' split
        all_goals omega
      · rw [if_neg e] at h
        by_cases e2 : s.pl < t.size ∧ (byL t).getD s.pl 0 = 43
        · rw [if_pos e2] at h
          by_cases e3 : s.ps.length = 20
          · rw [if_pos e3] at h; cases h
          · rw [if_neg e3] at h
            simp only [Sum.inr.injEq] at h
            subst h
            unfold muR
            refine ⟨?_, by dsimp only; omega⟩
            dsimp only
            repeat' split
            all_goals omega
        · rw [if_neg e2] at h; cases h
    · rw [if_neg l1] at h
      by_cases e : s.pl = t.size
      · rw [if_pos e] at h; cases h
      · rw [if_neg e] at h
        by_cases e2 : (byL t).getD s.pl 0 = 39 ∨ (byL t).getD s.pl 0 = 43
        · rw [if_pos e2] at h
          simp only [Sum.inr.injEq] at h
          subst h
          unfold muR
          refine ⟨?_, by dsimp only; omega⟩
          dsimp only
          repeat' split
          all_goals omega
        · rw [if_neg e2] at h
          by_cases e3 : (byL t).getD s.pl 0 = 63
          · rw [if_pos e3] at h
            by_cases e4 : s.pl + 1 = t.size ∨ mkB ((byL t).getD (s.pl + 1) 0) = false
            · rw [if_pos e4] at h; cases h
            · rw [if_neg e4] at h
              by_cases e5 : s.pt.length = 80
              · rw [if_pos e5] at h; cases h
              · rw [if_neg e5] at h
                simp only [Sum.inr.injEq] at h
                subst h
                have : ¬ s.pl + 1 = t.size := fun e6 => e4 (.inl e6)
                unfold muR
                refine ⟨?_, by dsimp only; omega⟩
                dsimp only
                repeat' split
                all_goals omega
          · rw [if_neg e3] at h
            by_cases e5 : s.pt.length = 80
            · rw [if_pos e5] at h; cases h
            · rw [if_neg e5] at h
              simp only [Sum.inr.injEq] at h
              subst h
              unfold muR
              refine ⟨?_, by dsimp only; omega⟩
              dsimp only
              repeat' split
              all_goals omega
def rdRun (t : ByteArray) : Nat → RdS → Int × Nat × List CSg
  | 0, _ => (0, 0, [])
  | n + 1, s => match rdStep t s with
    | .inl r => r
    | .inr s' => rdRun t n s'
def rdEnd (t : ByteArray) (s : RdS) : Int × Nat × List CSg := rdRun t (muR t s + 1) s
theorem rd_same (t : ByteArray) : ∀ (n m : Nat) (s : RdS), s.pl ≤ t.size → muR t s < n → muR t s < m → rdRun t n s = rdRun t m s := by
  intro n
  induction n with
  | zero => intro m s _ h; omega
  | succ n ih =>
    intro m s hp h hm
    obtain ⟨m', rfl⟩ : ∃ m', m = m' + 1 := ⟨m - 1, by omega⟩
    unfold rdRun
    cases hs : rdStep t s with
    | inl r => rfl
    | inr s' =>
      have := step_mu hp hs
      exact ih m' s' this.2 (by omega) (by omega)
theorem rdEnd_inl {t : ByteArray} {s : RdS} {r : Int × Nat × List CSg} (h : rdStep t s = .inl r) : rdEnd t s = r := by
  unfold rdEnd rdRun
  rw [h]
theorem rdEnd_inr {t : ByteArray} {s s' : RdS} (hp : s.pl ≤ t.size) (h : rdStep t s = .inr s') : rdEnd t s = rdEnd t s' := by
  have := step_mu hp h
  have e : rdEnd t s = rdRun t (muR t s) s' := by
    unfold rdEnd
    conv => lhs; unfold rdRun
    rw [h]
  rw [e]
  exact rd_same t _ _ s' this.2 (by omega) (by omega)
/-- What stays so: bounds. -/
structure RdOKS (t : ByteArray) (s : RdS) : Prop where
  pl : s.pl ≤ t.size
  out : s.out.length ≤ 200
  ps : s.ps.length ≤ 20
  pt : s.pt.length ≤ 80
/-- What ReadSegments tells. -/
def rsgR (t : ByteArray) : Int × Nat × List CSg := if 65536 < t.size then (2, 0, []) else rdEnd t ⟨0, 0, [], ByteArray.empty, [], []⟩
end Go.Proofs.Ytjnlghngneonhaa
