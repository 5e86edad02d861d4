/-
  What BestRoute's search finds is in time and back no later than any order that is; later ends of all windows leave it no worse.
-/
import Derived.Test.YtoogphkojofkfaaRwN
namespace Go.Proofs.Ytoogphkojofkfaa
open Go.ChangeShapes Go.WideShapes Go.ChangeAt Go.RowKit Go.Joins Go.Deep
set_option linter.unusedVariables false

theorem trp_ok_append {rs : List RHp} {b : Int} {L M : List Int} (h : (trp rs b (L ++ M)).ok = true) : (trp rs b L).ok = true := by
  cases hk : (trp rs b L).ok with
  | true => rfl
  | false =>
    have e : trp rs b (L ++ M) = M.foldl (stepT rs) (trp rs b L) := by unfold trp; rw [List.foldl_append]
    rw [e, trp_late rs _ hk M] at h
    cases h
theorem updR_mono (rs : List RHp) (b : Int) (p c : List Int) : ∃ o, updR rs b (some p) c = some o ∧ enR rs b o ≤ enR rs b p ∧ enR rs b o ≤ enR rs b c := by
  by_cases h : enR rs b c < enR rs b p
  · exact ⟨c, updR_lt h, by omega, Int.le_refl _⟩
  · exact ⟨p, updR_ge h, Int.le_refl _, by omega⟩
/-- What has been found only gets earlier. -/
theorem tyR_mono (rs : List RHp) (b : Int) : ∀ (k : Nat) (L p : List Int), ∃ o, tyR rs b k L (some p) = some o ∧ enR rs b o ≤ enR rs b p
  | 0, L, p => by
    cases hk : (trp rs b L).ok
    · exact ⟨p, tyR_late hk, Int.le_refl _⟩
    · obtain ⟨o, h1, h2, _⟩ := updR_mono rs b p L
      exact ⟨o, by rw [tyR_end hk]; exact h1, h2⟩
  | k + 1, L, p => by
    cases hk : (trp rs b L).ok
    · exact ⟨p, tyR_late hk, Int.le_refl _⟩
    · have key : ∀ m, ∃ o, stR rs b k L (some p) m = some o ∧ enR rs b o ≤ enR rs b p := by
        intro m
        induction m with
        | zero => exact ⟨p, rfl, Int.le_refl _⟩
        | succ m ih =>
          obtain ⟨q, h1, h2⟩ := ih
          cases hh : hasI L (m : Int)
          · obtain ⟨o, h3, h4⟩ := tyR_mono rs b k (L ++ [(m : Int)]) q
            exact ⟨o, by rw [stR_take hh, h1]; exact h3, by omega⟩
          · exact ⟨q, by rw [stR_skip hh]; exact h1, h2⟩
      obtain ⟨o, h1, h2⟩ := key rs.length
      exact ⟨o, by rw [tyR_more hk]; exact h1, h2⟩
theorem stR_mono (rs : List RHp) (b : Int) (k : Nat) (L : List Int) (B : Option (List Int)) {m : Nat} {p : List Int} (h : stR rs b k L B m = some p) : ∀ j, ∃ o, stR rs b k L B (m + j) = some o ∧ enR rs b o ≤ enR rs b p
  | 0 => ⟨p, h, Int.le_refl _⟩
  | j + 1 => by
    obtain ⟨q, h1, h2⟩ := stR_mono rs b k L B h j
    rw [← Nat.add_assoc]
    cases hh : hasI L ((m + j : Nat) : Int)
    · obtain ⟨o, h3, h4⟩ := tyR_mono rs b k (L ++ [((m + j : Nat) : Int)]) q
      exact ⟨o, by rw [stR_take hh, h1]; exact h3, by omega⟩
    · exact ⟨q, by rw [stR_skip hh]; exact h1, h2⟩
/-- An order in time that goes on from L is no earlier than what is found. -/
theorem tyR_opt (rs : List RHp) (b : Int) : ∀ (k : Nat) (L M : List Int) (B : Option (List Int)), M.length = k → (∀ x ∈ M, 0 ≤ x ∧ x < (rs.length : Int)) → (L ++ M).Nodup → (trp rs b (L ++ M)).ok = true → ∃ o, tyR rs b k L B = some o ∧ enR rs b o ≤ enR rs b (L ++ M)
  | 0, L, M, B, hl, _, _, hok => by
    have : M = [] := List.eq_nil_of_length_eq_zero hl
    subst this
    rw [List.append_nil] at hok ⊢
    rw [tyR_end hok]
    cases B with
    | none => exact ⟨L, rfl, Int.le_refl _⟩
    | some p =>
      obtain ⟨o, h1, _, h2⟩ := updR_mono rs b p L
      exact ⟨o, h1, h2⟩
  | k + 1, L, [], B, hl, _, _, _ => by simp at hl
  | k + 1, L, x :: M, B, hl, hin, hnd, hok => by
    have hx := hin x (by simp)
    obtain ⟨i, hi⟩ : ∃ i : Nat, x = (i : Int) := ⟨x.toNat, by omega⟩
    subst hi
    have hh : hasI L (i : Int) = false := by
      cases hc : hasI L (i : Int) with
      | false => rfl
      | true =>
        unfold hasI at hc
        have hm := List.contains_iff_mem.1 hc
        exact absurd rfl ((List.nodup_append.1 hnd).2.2 _ hm (i : Int) (by simp))
    have e : L ++ (i : Int) :: M = (L ++ [(i : Int)]) ++ M := by simp
    rw [e] at hnd hok ⊢
    obtain ⟨p, h1, h2⟩ := tyR_opt rs b k (L ++ [(i : Int)]) M (stR rs b k L B i) (by simpa using hl) (fun y hy => hin y (List.mem_cons_of_mem _ hy)) hnd hok
    have h3 : stR rs b k L B (i + 1) = some p := by rw [stR_take hh]; exact h1
    obtain ⟨o, h4, h5⟩ := stR_mono rs b k L B h3 (rs.length - (i + 1))
    rw [show i + 1 + (rs.length - (i + 1)) = rs.length by omega] at h4
    have hokL : (trp rs b L).ok = true := trp_ok_append (trp_ok_append hok)
    exact ⟨o, by rw [tyR_more hokL]; exact h4, by omega⟩
/-- What is found is an order in time. -/
theorem tyR_valid (rs : List RHp) (b : Int) : ∀ (k : Nat) (L : List Int) (B : Option (List Int)), OrdN rs.length L → L.length + k = rs.length → (∀ o, B = some o → OrdN rs.length o ∧ o.length = rs.length ∧ (trp rs b o).ok = true) → ∀ o, tyR rs b k L B = some o → OrdN rs.length o ∧ o.length = rs.length ∧ (trp rs b o).ok = true
  | 0, L, B, hL, hl, hB, o, h => by
    cases hk : (trp rs b L).ok
    · rw [tyR_late hk] at h; exact hB o h
    · rw [tyR_end hk] at h
      cases B with
      | none => rw [updR_none] at h; cases h; exact ⟨hL, by omega, hk⟩
      | some p =>
        by_cases hc : enR rs b L < enR rs b p
        · rw [updR_lt hc] at h; cases h; exact ⟨hL, by omega, hk⟩
        · rw [updR_ge hc] at h; exact hB o h
  | k + 1, L, B, hL, hl, hB, o, h => by
    cases hk : (trp rs b L).ok
    · rw [tyR_late hk] at h; exact hB o h
    · rw [tyR_more hk] at h
      have key : ∀ m, m ≤ rs.length → ∀ o, stR rs b k L B m = some o → OrdN rs.length o ∧ o.length = rs.length ∧ (trp rs b o).ok = true := by
        intro m
        induction m with
        | zero => exact fun _ => hB
        | succ m ih =>
          intro hm o ho
          cases hh : hasI L (m : Int)
          · rw [stR_take hh] at ho
            exact tyR_valid rs b k (L ++ [(m : Int)]) _ (.snoc hL (by omega) hh) (by simp; omega) (ih (by omega)) o ho
          · rw [stR_skip hh] at ho
            exact ih (by omega) o ho
      exact key _ (Nat.le_refl _) o h
theorem OrdN.onP {n : Nat} {L : List Int} (h : OrdN n L) : (∀ x ∈ L, 0 ≤ x ∧ x ≤ (n : Int) - 1) ∧ L.Nodup := by
  induction h with
  | nil => exact ⟨fun x hx => by simp at hx, List.nodup_nil⟩
  | @snoc L i h hi hn ih =>
    refine ⟨fun x hx => ?_, nodup_snoc ih.2 (fun hm => ?_)⟩
    · rcases List.mem_append.1 hx with h1 | h1
      · exact ih.1 x h1
      · simp at h1; subst h1; omega
    · unfold hasI at hn
      rw [List.contains_iff_mem.2 hm] at hn
      cases hn
theorem brB_valid {rs : List RHp} {b : Int} {o : List Int} (h : brB rs b = some o) : OrdN rs.length o ∧ OnP o rs.length ∧ (trp rs b o).ok = true := by
  obtain ⟨h1, h2, h3⟩ := tyR_valid rs b rs.length [] none .nil (by simp) (fun o h => by cases h) o h
  exact ⟨h1, ⟨h2, h1.onP.1, h1.onP.2⟩, h3⟩
theorem brB_opt {rs : List RHp} {b : Int} {L : List Int} (h : OnP L rs.length) (hok : (trp rs b L).ok = true) : ∃ o, brB rs b = some o ∧ enR rs b o ≤ enR rs b L :=
  tyR_opt rs b rs.length [] L none h.len (fun x hx => by have := h.inn x hx; omega) (by simpa using h.one) (by simpa using hok)
/-- In time: each is arrived at ahead of its end. -/
theorem trp_times (rs : List RHp) (b : Int) : ∀ (k : Nat) (os : List Int), os.length = k → (trp rs b os).ok = true → ∀ i, i < k → (trp rs b os).A.getD i 0 ≤ (rs.getD (os.getD i 0).toNat zHp).to
  | 0, os, _, _, i, hi => by omega
  | k + 1, os, hl, hok, i, hi => by
    have e0 := trp_take rs b (os := os) (k := k) (by omega)
    rw [List.take_of_length_le (by omega)] at e0
    have hl2 : (os.take k).length = k := by simp; omega
    have hA := trp_len rs b (os.take k)
    rw [e0] at hok ⊢
    have hok1 : (trp rs b (os.take k)).ok = true ∧ arN (trp rs b (os.take k)).lv (trp rs b (os.take k)).h (rs.getD (os.getD k 0).toNat zHp) ≤ (rs.getD (os.getD k 0).toNat zHp).to := by
      unfold stepT at hok
      simp only [Bool.and_eq_true, decide_eq_true_eq] at hok
      exact hok
    have eA : (stepT rs (trp rs b (os.take k)) (os.getD k 0)).A = (trp rs b (os.take k)).A ++ [arN (trp rs b (os.take k)).lv (trp rs b (os.take k)).h (rs.getD (os.getD k 0).toNat zHp)] := rfl
    rw [eA]
    by_cases hik : i < k
    · have ih := trp_times rs b k (os.take k) hl2 hok1.1 i hik
      rw [List.getD_eq_getElem?_getD, List.getElem?_append_left (by omega), ← List.getD_eq_getElem?_getD]
      have e2 : (os.take k).getD i 0 = os.getD i 0 := by simp [List.getD_eq_getElem?_getD, hik]
      rw [e2] at ih
      exact ih
    · have : i = k := by omega
      subst this
      rw [List.getD_eq_getElem?_getD, List.getElem?_append_right (by omega), hA, hl2, Nat.sub_self]
      exact hok1.2
/-- A stop whose window ends later. -/
def lsH (r : RHp) : RHp := ⟨r.x, r.y, r.fr, r.to + 40, r.sy⟩
/-- The same place, to go from it. -/
def SmH (h h' : RHp) : Prop := h'.x = h.x ∧ h'.y = h.y
structure TrS (t t' : Trp) : Prop where
  lv : t'.lv = t.lv
  A : t'.A = t.A
  h : SmH t.h t'.h
  ok : t.ok = true → t'.ok = true
theorem getD_ls (rs : List RHp) (k : Nat) : (k < rs.length ∧ (rs.map lsH).getD k zHp = lsH (rs.getD k zHp)) ∨ ((rs.map lsH).getD k zHp = zHp ∧ rs.getD k zHp = zHp) := by
  by_cases h : k < rs.length
  · exact .inl ⟨h, by simp [List.getD_eq_getElem?_getD, h]⟩
  · exact .inr ⟨by simp [List.getD_eq_getElem?_getD, h], by simp [List.getD_eq_getElem?_getD, h]⟩
theorem farH_sm {h h' s s' : RHp} (q : SmH h h') (q2 : SmH s s') : farH h' s' = farH h s := by
  unfold farH apN; rw [q.1, q.2, q2.1, q2.2]
theorem stepT_sm {rs : List RHp} {t t' : Trp} (q : TrS t t') (o : Int) : TrS (stepT rs t o) (stepT (rs.map lsH) t' o) := by
  obtain ⟨h1, h2, h3, h4⟩ := q
  have key : ∀ s s' : RHp, SmH s s' → s'.fr = s.fr → s'.sy = s.sy → s.to ≤ s'.to → TrS ⟨lvN t.lv t.h s, wtN t.wt t.lv t.h s, s, t.A ++ [arN t.lv t.h s], t.ok && decide (arN t.lv t.h s ≤ s.to)⟩ ⟨lvN t'.lv t'.h s', wtN t'.wt t'.lv t'.h s', s', t'.A ++ [arN t'.lv t'.h s'], t'.ok && decide (arN t'.lv t'.h s' ≤ s'.to)⟩ := by
    intro s s' k1 k2 k3 k4
    have ea : arN t'.lv t'.h s' = arN t.lv t.h s := by unfold arN; rw [h1, farH_sm h3 k1]
    refine ⟨?_, ?_, k1, ?_⟩
    · show lvN t'.lv t'.h s' = lvN t.lv t.h s
      unfold lvN stN; rw [ea, k2, k3]
    · show t'.A ++ _ = t.A ++ _
      rw [ea, h2]
    · show (t.ok && _) = true → (t'.ok && _) = true
      simp only [Bool.and_eq_true, decide_eq_true_eq]
      rw [ea]
      rintro ⟨k5, k6⟩
      exact ⟨h4 k5, by omega⟩
  unfold stepT
  rcases getD_ls rs o.toNat with ⟨_, e⟩ | ⟨e, e2⟩
  · rw [e]
    exact key _ _ ⟨rfl, rfl⟩ rfl rfl (by unfold lsH; dsimp only; omega)
  · rw [e, e2]
    exact key _ _ ⟨rfl, rfl⟩ rfl rfl (Int.le_refl _)
theorem trp_sm (rs : List RHp) (b : Int) (L : List Int) : TrS (trp rs b L) (trp (rs.map lsH) b L) := by
  unfold trp
  have : ∀ (L : List Int) (t t' : Trp), TrS t t' → TrS (L.foldl (stepT rs) t) (L.foldl (stepT (rs.map lsH)) t') := by
    intro L
    induction L with
    | nil => exact fun t t' h => h
    | cons o L ih => exact fun t t' h => ih _ _ (stepT_sm h o)
  exact this L _ _ ⟨rfl, rfl, ⟨rfl, rfl⟩, id⟩
theorem enR_sm (rs : List RHp) (b : Int) (L : List Int) : enR (rs.map lsH) b L = enR rs b L := by
  have q := trp_sm rs b L
  unfold enR endT
  rw [q.lv, farH_sm q.h ⟨rfl, rfl⟩]
theorem loose_best {rs : List RHp} {b : Int} {o : List Int} (h : brB rs b = some o) : ∃ o', brB (rs.map lsH) b = some o' ∧ enR (rs.map lsH) b o' ≤ enR rs b o := by
  obtain ⟨h1, h2, h3⟩ := brB_valid h
  have q := trp_sm rs b o
  obtain ⟨o', h4, h5⟩ := brB_opt (rs := rs.map lsH) (b := b) (L := o) (by simpa using h2) (q.ok h3)
  have e := enR_sm rs b o
  exact ⟨o', h4, by rw [← e]; exact h5⟩
/-- Stops as they are drawn. -/
def DrH (r : RHp) : Prop := (-20 ≤ r.x ∧ r.x ≤ 20) ∧ (-20 ≤ r.y ∧ r.y ≤ 20) ∧ (0 ≤ r.fr ∧ r.fr ≤ 59) ∧ (r.fr + 20 ≤ r.to ∧ r.to ≤ 278) ∧ 0 ≤ r.sy ∧ r.sy ≤ 11
structure DrS (rs : List RHp) (b : Int) : Prop where
  len : rs.length ≤ 5
  all : ∀ r ∈ rs, DrH r
  be : 0 ≤ b ∧ b ≤ 29
theorem dr_hp {r : RHp} (h : DrH r) : hpB r = true ∧ hpB (lsH r) = true := by
  unfold DrH at h
  exact ⟨hp_of (by omega), hp_of (by unfold lsH; dsimp only; omega)⟩
theorem dr_st {rs : List RHp} {b : Int} (h : DrS rs b) : stB rs = true ∧ rfC rs b = 0 ∧ rfC (rs.map lsH) b = 0 ∧ hpsB rs = true := by
  have hl := h.len
  have hb := h.be
  have h1 : hpsB rs = true := List.all_eq_true.2 (fun r hr => (dr_hp (h.all r hr)).1)
  have h2 : hpsB (rs.map lsH) = true := List.all_eq_true.2 (fun r hr => by
    obtain ⟨s, hs, rfl⟩ := List.mem_map.1 hr
    exact (dr_hp (h.all s hs)).2)
  have s1 : stB rs = true := by unfold stB; rw [if_neg (by omega)]; exact h1
  have s2 : stB (rs.map lsH) = true := by unfold stB; rw [if_neg (by simp; omega)]; exact h2
  have hi : inB b 0 100000 = true := by unfold inB; exact decide_eq_true (by omega)
  refine ⟨s1, ?_, ?_, h1⟩
  · rcases rf_ways rs b with ⟨k, e⟩ | ⟨_, k, e⟩ | ⟨_, _, k, e⟩ | ⟨_, _, _, e⟩
    · omega
    · rw [s1] at k; cases k
    · rw [hi] at k; cases k
    · exact e
  · rcases rf_ways (rs.map lsH) b with ⟨k, e⟩ | ⟨_, k, e⟩ | ⟨_, _, k, e⟩ | ⟨_, _, _, e⟩
    · simp at k; omega
    · rw [s2] at k; cases k
    · rw [hi] at k; cases k
    · exact e
/-- Times of a route over drawn stops are small. -/
theorem dr_small {rs : List RHp} {b : Int} (h : DrS rs b) {o : List Int} (hl : o.length ≤ 5) : 0 ≤ enR rs b o ∧ enR rs b o ≤ 1000000 ∧ 0 ≤ (trp rs b o).wt ∧ (trp rs b o).wt ≤ 1000000 := by
  obtain ⟨_, _, _, hs⟩ := dr_st h
  have hb := h.be
  have q := trp_bd hs (b := b) (by omega) o.length o rfl
  have f := farH_bd q.h hp_in_z
  have h1 := q.lv
  have h2 := q.wt
  unfold enR endT
  omega
/-- All that FnRoute asks, where the program has a route. -/
theorem fn_yes {rs : List RHp} {b : Int} (h : DrS rs b) {o : List Int} (ho : brB rs b = some o) : roC rs b o = 0 ∧ leV rs b ≤ enR rs b o ∧ leC rs b = 0 := by
  obtain ⟨s1, hf, _, hs⟩ := dr_st h
  obtain ⟨h1, h2, h3⟩ := brB_valid ho
  have hon := (on_iff o rs.length).2 h2
  have hl := h2.len
  have h7 := h.len
  refine ⟨?_, ?_, hf⟩
  · unfold roC; rw [if_neg (by omega), if_pos hf, if_pos hon, if_pos h3]
  · unfold leV; rw [if_pos hf]; exact leN_le hs b h1 h2.len
theorem fn_ways {rs : List RHp} {b : Int} (h : DrS rs b) {L : List Int} (hL : OnP L rs.length) : (roC rs b L = 17 ∧ roE rs b L = 0) ∨ (roC rs b L = 0 ∧ roE rs b L = enR rs b L ∧ ∃ o, brB rs b = some o ∧ enR rs b o ≤ enR rs b L) := by
  obtain ⟨s1, hf, _, hs⟩ := dr_st h
  have hon := (on_iff L rs.length).2 hL
  have hl := hL.len
  have h7 := h.len
  have e : roC rs b L = if (trp rs b L).ok = true then 0 else 17 := by unfold roC; rw [if_neg (by omega), if_pos hf, if_pos hon]
  cases hk : (trp rs b L).ok
  · rw [hk] at e
    have e1 : roC rs b L = 17 := e
    exact .inl ⟨e1, (ro_no e1 (by omega)).2.2.2⟩
  · rw [hk] at e
    have e1 : roC rs b L = 0 := e
    exact .inr ⟨e1, (ro_yes e1).2.2.2, brB_opt hL hk⟩
end Go.Proofs.Ytoogphkojofkfaa
