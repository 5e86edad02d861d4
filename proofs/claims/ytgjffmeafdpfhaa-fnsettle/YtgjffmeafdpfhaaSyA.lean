/-
  What settled lists have together, as mathematics: each place once, pairs that are the same, nothing left that could be paired, the difference that of what is left. Nothing of the program is in it.
-/
import Derived.Test.YtgjffmeafdpfhaaSxA
namespace Go.Proofs.Ytgjffmeafdpfhaa
open Go.ChangeShapes Go.WideShapes Go.ChangeAt Go.RowKit Go.Deep
set_option linter.unusedVariables false

def amS (rs : List RSe) : List Nat → Int
  | [] => 0
  | x :: l => (rs.getD x zSe).am + amS rs l
theorem amS_app (rs : List RSe) : ∀ l l', amS rs (l ++ l') = amS rs l + amS rs l'
  | [], l' => by simp [amS]
  | x :: l, l' => by
    rw [List.cons_append, amS, amS, amS_app rs l l']
    omega
def tkN (tk : Nat → Bool) : Nat → Nat
  | 0 => 0
  | n + 1 => tkN tk n + if tk n = true then 1 else 0
def tkS (rs : List RSe) (tk : Nat → Bool) : Nat → Int
  | 0 => 0
  | n + 1 => tkS rs tk n + if tk n = true then (rs.getD n zSe).am else 0
theorem tk_put (rs : List RSe) (tk : Nat → Bool) (j : Nat) (hj : tk j = false) : ∀ n, tkN (fun q => if q = j then true else tk q) n = tkN tk n + (if j < n then 1 else 0) ∧ tkS rs (fun q => if q = j then true else tk q) n = tkS rs tk n + (if j < n then (rs.getD j zSe).am else 0)
  | 0 => ⟨by simp [tkN], by simp [tkS]⟩
  | n + 1 => by
    obtain ⟨h1, h2⟩ := tk_put rs tk j hj n
    rw [tkN, tkN, tkS, tkS, h1, h2]
    by_cases e : n = j
    · subst e
      rw [if_neg (Nat.lt_irrefl _), if_neg (Nat.lt_irrefl _), if_pos rfl, if_pos rfl, if_pos rfl, if_pos (Nat.lt_succ_self _), if_pos (Nat.lt_succ_self _), hj]
      simp
    · rw [if_neg e]
      have e3 : (j < n + 1) = (j < n) := propext ⟨fun h => by omega, fun h => by omega⟩
      simp only [e3]
      exact ⟨by omega, by omega⟩
theorem bk_len (tk : Nat → Bool) : ∀ n, (bkAt tk n).length + tkN tk n = n
  | 0 => rfl
  | n + 1 => by
    have ih := bk_len tk n
    rw [bkAt, tkN]
    by_cases h : tk n = true
    · rw [if_pos h, if_pos h]; omega
    · rw [if_neg h, if_neg h, List.length_append]; simp; omega
theorem bk_sum (rs : List RSe) (tk : Nat → Bool) : ∀ n, amS rs (bkAt tk n) + tkS rs tk n = sumS rs n
  | 0 => rfl
  | n + 1 => by
    have ih := bk_sum rs tk n
    rw [bkAt, tkS, sumS]
    by_cases h : tk n = true
    · rw [if_pos h, if_pos h]; omega
    · rw [if_neg h, if_neg h, amS_app]; simp [amS]; omega
theorem bk_mem (tk : Nat → Bool) : ∀ n q, q ∈ bkAt tk n → q < n ∧ tk q = false
  | 0, q, h => by simp [bkAt] at h
  | n + 1, q, h => by
    rw [bkAt] at h
    by_cases e : tk n = true
    · rw [if_pos e] at h
      have := bk_mem tk n q h
      exact ⟨by omega, this.2⟩
    · rw [if_neg e, List.mem_append] at h
      rcases h with h | h
      · have := bk_mem tk n q h
        exact ⟨by omega, this.2⟩
      · simp at h
        subst h
        exact ⟨by omega, by simpa using e⟩
theorem bk_count (tk : Nat → Bool) : ∀ n q, (bkAt tk n).count q = if q < n ∧ tk q = false then 1 else 0
  | 0, q => by simp [bkAt]
  | n + 1, q => by
    have ih := bk_count tk n q
    rw [bkAt]
    by_cases e : tk n = true
    · rw [if_pos e, ih]
      by_cases e2 : q = n
      · subst e2
        rw [if_neg (by omega), if_neg (by simp [e])]
      · by_cases e3 : q < n ∧ tk q = false
        · rw [if_pos e3, if_pos ⟨by omega, e3.2⟩]
        · rw [if_neg e3, if_neg (fun h => e3 ⟨by omega, h.2⟩)]
    · rw [if_neg e, List.count_append, ih]
      have e' : tk n = false := by simpa using e
      by_cases e2 : q = n
      · subst e2
        rw [if_neg (by omega), if_pos ⟨by omega, e'⟩]
        simp
      · have hc : List.count q [n] = 0 := List.count_eq_zero.2 (by simp; exact e2)
        rw [hc]
        by_cases e3 : q < n ∧ tk q = false
        · rw [if_pos e3, if_pos ⟨by omega, e3.2⟩]
        · rw [if_neg e3, if_neg (fun h => e3 ⟨by omega, h.2⟩)]
/-- What holds when i of mine were gone through. -/
structure MsOK (M K : List RSe) (i : Nat) (s : MS) : Prop where
  once : ∀ q, (s.ps.map Prod.fst ++ s.ms).count q = if q < i then 1 else 0
  snd : ∀ q, (s.ps.map Prod.snd).count q = if s.tk q = true then 1 else 0
  low : ∀ q, s.tk q = true → q < K.length
  pair : ∀ p ∈ s.ps, p.1 < i ∧ p.2 < K.length ∧ seEq (K.getD p.2 zSe) (M.getD p.1 zSe) = true
  left : ∀ x ∈ s.ms, x < i ∧ ∀ j, j < K.length → s.tk j = false → seEq (K.getD j zSe) (M.getD x zSe) = false
  num : tkN s.tk K.length = s.ps.length
  sum : tkS K s.tk K.length + amS M s.ms = sumS M i
theorem seEq_am {x y : RSe} (h : seEq x y = true) : x.am = y.am := by
  unfold seEq at h
  rw [Bool.and_eq_true] at h
  simpa using h.2
theorem tkN_zero : ∀ n, tkN (fun _ => false) n = 0
  | 0 => rfl
  | n + 1 => by rw [tkN, tkN_zero n]; simp
theorem tkS_zero (rs : List RSe) : ∀ n, tkS rs (fun _ => false) n = 0
  | 0 => rfl
  | n + 1 => by rw [tkS, tkS_zero rs n]; simp
theorem ms_ok (M K : List RSe) : ∀ i, i ≤ M.length → MsOK M K i (msAt M K i)
  | 0, _ => ⟨fun q => by simp [msAt], fun q => by simp [msAt], fun q h => by simp [msAt] at h, fun p h => by simp [msAt] at h, fun x h => by simp [msAt] at h, by simp [msAt, tkN_zero], by simp [msAt, tkS_zero, amS, sumS]⟩
  | i + 1, hi => by
    have ih := ms_ok M K i (by omega)
    rw [msAt]
    generalize msAt M K i = s at *
    obtain ⟨tk, ps, ms⟩ := s
    obtain ⟨o1, o2, o3, o4, o5, o6, o7⟩ := ih
    dsimp only at o1 o2 o3 o4 o5 o6 o7 ⊢
    cases hf : firstU K tk (M.getD i zSe) with
    | none =>
      have hm := firstU_miss hf
      refine ⟨fun q => ?_, o2, o3, fun p hp => ?_, fun x hx => ?_, o6, ?_⟩
      · show (ps.map Prod.fst ++ (ms ++ [i])).count q = _
        rw [← List.append_assoc, List.count_append, o1 q]
        by_cases e : q = i
        · subst e; rw [if_neg (by omega), if_pos (by omega)]; simp
        · have hc : List.count q [i] = 0 := List.count_eq_zero.2 (by simp; exact e)
          rw [hc]
          by_cases e2 : q < i
          · rw [if_pos e2, if_pos (by omega)]
          · rw [if_neg e2, if_neg (by omega)]
      · have := o4 p hp
        exact ⟨by omega, this.2⟩
      · have hx' : x ∈ ms ++ [i] := hx
        rw [List.mem_append] at hx'
        rcases hx' with h | h
        · have := o5 x h
          exact ⟨by omega, this.2⟩
        · simp at h
          subst h
          refine ⟨by omega, fun j hj ht => ?_⟩
          have := hm j hj
          have ht' : tk j = false := ht
          unfold sePart at this
          rw [ht'] at this
          simpa using this
      · show tkS K tk K.length + amS M (ms ++ [i]) = _
        rw [amS_app, sumS]
        simp [amS]
        omega
    | some j =>
      obtain ⟨hj, hs⟩ := firstU_some hf
      unfold sePart at hs
      rw [Bool.and_eq_true] at hs
      have htj : tk j = false := by simpa using hs.2
      have hsame := hs.1
      have hput := tk_put K tk j htj K.length
      refine ⟨fun q => ?_, fun q => ?_, fun q hq => ?_, fun p hp => ?_, fun x hx => ?_, ?_, ?_⟩
      · show ((ps ++ [(i, j)]).map Prod.fst ++ ms).count q = _
        have e0 := o1 q
        rw [List.count_append] at e0
        rw [List.map_append, List.count_append, List.count_append]
        by_cases e : q = i
        · subst e
          rw [if_neg (by omega)] at e0
          rw [if_pos (by omega)]
          simp
          omega
        · have hc : List.count q (List.map Prod.fst [(i, j)]) = 0 := List.count_eq_zero.2 (by simp; exact e)
          rw [hc]
          by_cases e2 : q < i
          · rw [if_pos e2] at e0; rw [if_pos (by omega)]; omega
          · rw [if_neg e2] at e0; rw [if_neg (by omega)]; omega
      · show ((ps ++ [(i, j)]).map Prod.snd).count q = if (if q = j then true else tk q) = true then 1 else 0
        rw [List.map_append, List.count_append, o2 q]
        by_cases e : q = j
        · subst e
          simp [htj]
        · have hc : List.count q (List.map Prod.snd [(i, j)]) = 0 := List.count_eq_zero.2 (by simp; exact e)
          rw [hc, if_neg e]
          simp
      · have hq' : (if q = j then true else tk q) = true := hq
        by_cases e : q = j
        · rw [e]; exact hj
        · rw [if_neg e] at hq'; exact o3 q hq'
      · have hp' : p ∈ ps ++ [(i, j)] := hp
        rw [List.mem_append] at hp'
        rcases hp' with h | h
        · have := o4 p h
          exact ⟨by omega, this.2⟩
        · simp at h
          subst h
          exact ⟨by simp, hj, hsame⟩
      · have := o5 x hx
        refine ⟨by omega, fun k hk ht => ?_⟩
        have ht' : (if k = j then true else tk k) = false := ht
        by_cases e : k = j
        · rw [if_pos e] at ht'; simp at ht'
        · rw [if_neg e] at ht'; exact this.2 k hk ht'
      · show tkN (fun q => if q = j then true else tk q) K.length = (ps ++ [(i, j)]).length
        rw [hput.1, if_pos hj, List.length_append, o6]; rfl
      · show tkS K (fun q => if q = j then true else tk q) K.length + amS M ms = _
        rw [hput.2, if_pos hj, sumS, seEq_am hsame]
        omega
/-- What FnSettle asks of an answer. -/
structure StOK (M K : List RSe) (t : Mt) : Prop where
  l1 : t.ps.length + t.ms.length = M.length
  l2 : t.ps.length + t.bs.length = K.length
  pair : ∀ p ∈ t.ps, p.1 < M.length ∧ p.2 < K.length ∧ seEq (M.getD p.1 zSe) (K.getD p.2 zSe) = true
  mlt : ∀ x ∈ t.ms, x < M.length
  blt : ∀ y ∈ t.bs, y < K.length
  left : ∀ x ∈ t.ms, ∀ y ∈ t.bs, seEq (K.getD y zSe) (M.getD x zSe) = false
  a1 : ∀ q, q < M.length → (t.ps.map Prod.fst ++ t.ms).count q = 1
  b1 : ∀ q, q < K.length → (t.ps.map Prod.snd ++ t.bs).count q = 1
  far : amS M t.ms - amS K t.bs = t.df
theorem seEq_symm (x y : RSe) : seEq x y = seEq y x := by
  unfold seEq
  rw [Bool.eq_iff_iff]
  simp only [Bool.and_eq_true, beq_iff_eq]
  exact ⟨fun h => ⟨h.1.symm, h.2.symm⟩, fun h => ⟨h.1.symm, h.2.symm⟩⟩
theorem st_ok (M K : List RSe) : StOK M K (mtOf M K) := by
  have h := ms_ok M K M.length (Nat.le_refl _)
  have hl := msAt_len M K M.length
  unfold mtOf
  generalize msAt M K M.length = s at *
  have hb := bk_len s.tk K.length
  have hs := bk_sum K s.tk K.length
  refine ⟨hl, ?_, fun p hp => ?_, fun x hx => (h.left x hx).1, fun y hy => (bk_mem _ _ _ hy).1, fun x hx y hy => (h.left x hx).2 y (bk_mem _ _ _ hy).1 (bk_mem _ _ _ hy).2, fun q hq => ?_, fun q hq => ?_, ?_⟩
  · have := h.num
    dsimp only
    omega
  · obtain ⟨h1, h2, h3⟩ := h.pair p hp
    exact ⟨h1, h2, by rw [seEq_symm]; exact h3⟩
  · have := h.once q
    rw [if_pos hq] at this
    exact this
  · have e := h.snd q
    dsimp only
    rw [List.count_append, e, bk_count]
    cases ht : s.tk q
    · rw [if_neg (by simp), if_pos ⟨hq, rfl⟩]
    · rw [if_pos rfl, if_neg (by simp)]
  · have := h.sum
    dsimp only
    omega
end Go.Proofs.Ytgjffmeafdpfhaa
