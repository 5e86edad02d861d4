/-
  What points come to, act by act: earned, left, spent, expired; nothing of the program is in it.
-/
import Derived.Test.YtgjplolhcjiidaaPpM
namespace Go.Proofs.Ytgjplolhcjiidaa
open Go.ChangeShapes Go.WideShapes Go.ChangeAt Go.RowKit Go.Deep
set_option linter.unusedVariables false

def oSum : Option (List RLo) → Int
  | none => 0
  | some K => sumP K
/-- What is taken by the first k acts and not brought back. -/
def tkSum (T : Int → Option (List RLo)) : Nat → Int
  | 0 => 0
  | k + 1 => tkSum T k + oSum (T (k : Int))
theorem tkSum_congr {T T' : Int → Option (List RLo)} : ∀ {k : Nat}, (∀ c : Nat, c < k → T (c : Int) = T' (c : Int)) → tkSum T k = tkSum T' k
  | 0, _ => rfl
  | k + 1, h => by rw [tkSum, tkSum, tkSum_congr (fun c hc => h c (by omega)), h k (by omega)]
theorem tkSum_off (T : Int → Option (List RLo)) (i : Nat) : ∀ k : Nat, i < k → tkSum (fun c => if c = (i : Int) then none else T c) k = tkSum T k - oSum (T (i : Int))
  | 0, h => by omega
  | k + 1, h => by
    rw [tkSum, tkSum]
    by_cases e : i = k
    · subst e
      rw [if_pos rfl, tkSum_congr (T := fun c => if c = (i : Int) then none else T c) (T' := T) (fun c hc => if_neg (by omega))]
      simp [oSum]
    · rw [tkSum_off T i k (by omega), if_neg (by omega)]
      omega
theorem tkSum_pos {T : Int → Option (List RLo)} (h : ∀ c K, T c = some K → ∀ r ∈ K, LoN r) : ∀ k, 0 ≤ tkSum T k
  | 0 => Int.le_refl _
  | k + 1 => by
    have ih := tkSum_pos h k
    have h2 : 0 ≤ oSum (T (k : Int)) := by
      cases e : T (k : Int) with
      | none => exact Int.le_refl _
      | some K => have := sumP_bound (h _ K e); show 0 ≤ sumP K; omega
    rw [tkSum]; omega
theorem tkT_un {p : Int → Prop} {m : Int} {L : List RLo} (hp : ∀ r ∈ L, p r.un) (hl : 0 < L.length → True) (hN : ∀ r ∈ L, LoN r) (hm : 0 ≤ m) (hs : m ≤ sumP L) : ∀ k, ∀ r ∈ (tkT m L k).2.1, p r.un
  | 0 => hp
  | k + 1 => by
    have ih := tkT_un hp hl hN hm hs k
    have iv := tkT_inv hN hm hs k
    rw [tkT]
    generalize tkT m L k = s at *
    unfold tkS
    by_cases h : s.1 ≤ 0
    · rw [if_pos h]; exact ih
    · rw [if_neg h]
      obtain ⟨hl0, _⟩ := tk_facts iv.good (by omega) iv.top
      intro r hr
      have hti : tkI s.2.1 < s.2.1.length := feN_lt _ _ hl0
      have hx := getLo' ih hti
      dsimp only at hr
      unfold tkL at hr
      split at hr
      · rcases List.mem_append.1 hr with q | q
        · exact ih r (List.mem_of_mem_take q)
        · exact ih r (List.mem_of_mem_drop q)
      · rcases List.mem_or_eq_of_mem_set hr with q | q
        · exact ih r q
        · rw [q]; exact hx
/-- What holds behind k acts, where e points were earned. -/
structure PtI (k : Nat) (e : Int) (σ : PSt) : Prop where
  bal : sumP σ.L + σ.sp + σ.ex = e
  live : ∀ r ∈ σ.L, σ.day ≤ r.un
  spent : σ.sp = tkSum σ.T k
  out : ∀ c, (c < 0 ∨ (k : Int) ≤ c) → σ.T c = none
theorem PtI.up {k : Nat} {e : Int} {σ : PSt} (h : PtI k e σ) : PtI (k + 1) e σ :=
  ⟨h.bal, h.live, by rw [tkSum, h.out k (.inr (by omega)), h.spent]; simp [oSum], fun c hc => h.out c (by rcases hc with q | q; exact .inl q; exact .inr (by push_cast at q; omega))⟩
/-- What one act tells: its code, the sums ahead of it and behind it. -/
structure PtT (r : RPa) (c s s' : Int) : Prop where
  no : c ≠ 0 → s' = s
  earn : c = 0 → r.kd = 1 → s' = s + r.nu
  spend : c = 0 → r.kd = 2 → s' = s - r.nu ∧ 0 ≤ s'
  day : c = 0 → r.kd = 3 → s' ≤ s
def erN (r : RPa) (c : Int) : Int := if c = 0 ∧ r.kd = 1 then r.nu else 0
theorem ptAct_I {k : Nat} {e : Int} {σ : PSt} {j : Nat} (r : RPa) (hI : PtI k e σ) (hok : PsOk j σ) : PtI (k + 1) (e + erN r (ptAct (k : Int) r σ).1) (ptAct (k : Int) r σ).2 ∧ PtT r (ptAct (k : Int) r σ).1 (sumP σ.L) (sumP (ptAct (k : Int) r σ).2.L) := by
  have hno : ∀ c : Int, c ≠ 0 → PtI (k + 1) (e + erN r c) σ ∧ PtT r c (sumP σ.L) (sumP σ.L) := fun c hc => ⟨by
    have e0 : erN r c = 0 := if_neg (fun h => hc h.1)
    rw [e0, Int.add_zero]; exact hI.up, ⟨fun _ => rfl, fun h => absurd h hc, fun h => absurd h hc, fun h => absurd h hc⟩⟩
  have hb := hI.bal
  unfold ptAct
  by_cases h4 : r.kd = 4
  · rw [if_pos h4]
    have e0 : ∀ c, erN r c = 0 := fun c => if_neg (by omega)
    unfold stBack
    split
    · exact hno 8 (by omega)
    · rename_i K hK
      split
      · exact hno 14 (by omega)
      · have hnu : 0 ≤ r.nu ∧ r.nu < (k : Int) := by
          rcases (by omega : (r.nu < 0 ∨ (k : Int) ≤ r.nu) ∨ (0 ≤ r.nu ∧ r.nu < (k : Int))) with q | q
          · rw [hI.out _ q] at hK; cases hK
          · exact q
        obtain ⟨i, hi⟩ := Int.eq_ofNat_of_zero_le hnu.1
        rw [hi] at hK hnu ⊢
        have hoff := tkSum_off σ.T i k (by omega)
        rw [hK] at hoff
        refine ⟨⟨?_, fun q hq => ?_, ?_, fun c hc => ?_⟩, ⟨fun h => absurd rfl h, fun _ h => by omega, fun _ h => by omega, fun _ h => by omega⟩⟩
        · dsimp only
          rw [e0, sumP_append]; omega
        · dsimp only at hq ⊢
          rcases List.mem_append.1 hq with z | z
          · exact hI.live q z
          · have := (List.mem_filter.1 z).2
            simpa using this
        · dsimp only
          rw [tkSum, hoff, hI.spent]
          have : (if (k : Int) = (i : Int) then none else σ.T (k : Int)) = none := by rw [if_neg (by omega)]; exact hI.out _ (.inr (by omega))
          rw [this]; simp [oSum]
        · dsimp only
          split
          · rfl
          · exact hI.out c (by rcases hc with q | q; exact .inl q; exact .inr (by push_cast at q; omega))
  rw [if_neg h4]
  by_cases h3 : r.kd = 3
  · rw [if_pos h3]
    have e0 : ∀ c, erN r c = 0 := fun c => if_neg (by omega)
    unfold stDay
    split
    · exact hno 5 (by omega)
    · rename_i hd
      have hk := sumP_kept r.nu hok.lot
      have hu := hI.up
      refine ⟨⟨?_, fun q hq => ?_, hu.spent, hu.out⟩, ⟨fun h => absurd rfl h, fun _ h => by omega, fun _ h => by omega, fun _ _ => hk.2⟩⟩
      · dsimp only
        rw [e0]; omega
      · have := (List.mem_filter.1 hq).2
        simpa using this
  rw [if_neg h3]
  by_cases h2 : r.kd = 2
  · rw [if_pos h2]
    have e0 : ∀ c, erN r c = 0 := fun c => if_neg (by omega)
    unfold stSpend
    split
    · exact hno 5 (by omega)
    · split
      · exact hno 19 (by omega)
      · rename_i hm hs
        obtain ⟨f1, f2, f3, f4, f5⟩ := sp_facts (m := r.nu) hok.lot (by omega) (by omega)
        have hsum := hok.sum
        refine ⟨⟨?_, tkT_un (p := fun u => σ.day ≤ u) hI.live (fun _ => trivial) hok.lot (by omega) (by omega) _, ?_, fun c hc => ?_⟩, ⟨fun h => absurd rfl h, fun _ h => by omega, fun _ _ => ⟨f4, by dsimp only; rw [f4]; omega⟩, fun _ h => by omega⟩⟩
        · dsimp only
          rw [e0, f4]; omega
        · dsimp only
          rw [tkSum, if_pos rfl, tkSum_congr (T := fun c => if c = (k : Int) then some (spO r.nu σ.L) else σ.T c) (T' := σ.T) (fun c hc => if_neg (by omega)), hI.spent]
          show _ = _ + sumP (spO r.nu σ.L)
          rw [f3]
        · dsimp only
          rw [if_neg (by rcases hc with q | q <;> push_cast at * <;> omega)]
          exact hI.out c (by rcases hc with q | q; exact .inl q; exact .inr (by push_cast at q; omega))
  rw [if_neg h2]
  by_cases h1 : r.kd = 1
  · rw [if_pos h1]
    unfold stEarn
    split
    · exact hno 5 (by omega)
    · rename_i hr
      split
      · exact hno 14 (by omega)
      · have e1 : erN r 0 = r.nu := if_pos ⟨rfl, h1⟩
        have hu := hI.up
        have es : sumP (σ.L ++ [⟨r.nu, r.un⟩]) = sumP σ.L + r.nu := by rw [sumP_append]; simp [sumP]
        refine ⟨⟨?_, fun q hq => ?_, hu.spent, hu.out⟩, ⟨fun h => absurd rfl h, fun _ _ => es, fun _ h => by omega, fun _ h => by omega⟩⟩
        · dsimp only
          rw [e1, es]; omega
        · rcases List.mem_append.1 hq with z | z
          · exact hI.live q z
          · rw [List.mem_singleton.1 z]; show σ.day ≤ r.un; omega
  rw [if_neg h1]
  exact hno 13 (by omega)
/-- What was earned by the first k acts. -/
def erS (rs : List RPa) : Nat → Int
  | 0 => 0
  | k + 1 => erS rs k + erN (rs.getD k zPa) (ptAct (k : Int) (rs.getD k zPa) (ptS rs k)).1
theorem pt_run (rs : List RPa) : ∀ k, PtI k (erS rs k) (ptS rs k)
  | 0 => ⟨by simp [ptS, pt0, erS, sumP], fun r hr => by simp [ptS, pt0] at hr, rfl, fun c _ => rfl⟩
  | k + 1 => (ptAct_I _ (pt_run rs k) (ptS_ok rs k)).1
theorem pt_tells (rs : List RPa) (k : Nat) : PtT (rs.getD k zPa) (ptAct (k : Int) (rs.getD k zPa) (ptS rs k)).1 (sumP (ptS rs k).L) (sumP (ptS rs (k + 1)).L) := (ptAct_I _ (pt_run rs k) (ptS_ok rs k)).2
theorem ptO_at (rs : List RPa) : ∀ n i, i < n → (ptO rs n).getD i (0, 0) = ((ptAct (i : Int) (rs.getD i zPa) (ptS rs i)).1, sumP (ptS rs (i + 1)).L)
  | 0, i, h => by omega
  | n + 1, i, h => by
    have hl := ptO_len rs n
    rw [ptO]
    by_cases e : i = n
    · subst e
      simp [List.getD_eq_getElem?_getD, hl]
    · have := ptO_at rs n i (by omega)
      rw [← this]
      simp [List.getD_eq_getElem?_getD, List.getElem?_append, hl, show i < n by omega]
theorem pt_spent (rs : List RPa) (k : Nat) : 0 ≤ (ptS rs k).sp := by
  rw [(pt_run rs k).spent]
  exact tkSum_pos (fun c K h => ((ptS_ok rs k).tk c K h).1) k
/-- An earning without a code is of 1 to 1000000 points. -/
theorem pt_earned (rs : List RPa) (k : Nat) : 0 ≤ erN (rs.getD k zPa) (ptAct (k : Int) (rs.getD k zPa) (ptS rs k)).1 ∧ erN (rs.getD k zPa) (ptAct (k : Int) (rs.getD k zPa) (ptS rs k)).1 ≤ 1000000 := by
  unfold erN
  split
  · rename_i h
    obtain ⟨h0, h1⟩ := h
    unfold ptAct at h0
    rw [if_neg (by omega), if_neg (by omega), if_neg (by omega), if_pos h1] at h0
    unfold stEarn at h0
    split at h0
    · simp at h0
    · rename_i hr; omega
  · omega
theorem erS_bound (rs : List RPa) : ∀ k : Nat, 0 ≤ erS rs k ∧ erS rs k ≤ 1000000 * (k : Int)
  | 0 => by simp [erS]
  | k + 1 => by
    have h := erS_bound rs k
    have := pt_earned rs k
    rw [erS]; push_cast; omega
end Go.Proofs.Ytgjplolhcjiidaa
