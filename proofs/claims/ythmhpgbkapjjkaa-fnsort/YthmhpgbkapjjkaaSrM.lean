/-
  A belt whose parcels go into their lanes, as mathematics.
-/
import Derived.Test.YthmhpgbkapjjkaaLaA
import Derived.Test.YthmhpgbkapjjkaaQsA
namespace Go.Proofs.Ythmhpgbkapjjkaa
open Go.ChangeShapes Go.WideShapes Go.ChangeAt Go.RowKit Go.Deep
set_option linter.unusedVariables false

/-- A right lane. -/
def lnB (r : RLa) : Bool := inB r.rm 1 100 && inB r.ev 1 100
def lnsB (ls : List RLa) : Bool := ls.all lnB
/-- What SortRun tells first. -/
def soC (ls : List RLa) (ps : List Int) : Int := if 4096 < ls.length ∨ 4096 < ps.length then 2 else if 9 < ls.length ∨ 100 < ps.length then 9 else if lnsB ls = true then (if alB 0 ((ls.length : Int) - 1) ps = true then 0 else 5) else 1
theorem lnB_facts {r : RLa} (h : lnB r = true) : (1 ≤ r.rm ∧ r.rm ≤ 100) ∧ 1 ≤ r.ev ∧ r.ev ≤ 100 := by
  unfold lnB inB at h
  simp only [Bool.and_eq_true, decide_eq_true_eq] at h
  exact h
theorem lnsB_take {ls : List RLa} {k : Nat} (h : k < ls.length) : lnsB (ls.take (k + 1)) = (lnsB (ls.take k) && lnB (ls.getD k zLa)) := by
  unfold lnsB
  rw [List.take_succ_eq_append_getElem h, List.all_append]
  simp [List.getD_eq_getElem?_getD, h]
theorem lnsB_get {ls : List RLa} (h : lnsB ls = true) {k : Nat} (hk : k < ls.length) : lnB (ls.getD k zLa) = true := by
  unfold lnsB at h
  rw [List.all_eq_true] at h
  exact getLa h hk
theorem alB_get {lo hi : Int} {ps : List Int} (h : alB lo hi ps = true) {k : Nat} (hk : k < ps.length) : lo ≤ ps.getD k 0 ∧ ps.getD k 0 ≤ hi := by
  unfold alB at h
  rw [List.all_eq_true] at h
  have e : ps.getD k 0 = ps[k] := by simp [List.getD_eq_getElem?_getD, hk]
  have := h _ (List.getElem_mem hk)
  rw [e]
  unfold inB at this
  exact of_decide_eq_true this

/-- How far the belt has come: who is on it (number, rounds), what is within each lane, where each went, who was rejected, ticks, rounds in all. -/
structure SrS where
  belt : List (Nat × Nat)
  full : List Int
  out : List Int
  rej : List Int
  tk : Int
  rc : Int
/-- The first k lanes emptied, if it is their time. -/
def emK (ls : List RLa) (tk : Int) (full : List Int) (k : Nat) : List Int := (List.range ls.length).map fun i => if i < k ∧ tk % (ls.getD i zLa).ev = 0 then 0 else full.getD i 0
theorem emK_len (ls : List RLa) (tk : Int) (full : List Int) (k : Nat) : (emK ls tk full k).length = ls.length := by unfold emK; simp
theorem emK_get {ls : List RLa} {tk : Int} {full : List Int} {k i : Nat} (h : i < ls.length) : (emK ls tk full k).getD i 0 = if i < k ∧ tk % (ls.getD i zLa).ev = 0 then 0 else full.getD i 0 := by
  unfold emK
  rw [List.getD_eq_getElem?_getD, List.getElem?_eq_getElem (by simpa using h)]
  simp
theorem emK_zero {ls : List RLa} {tk : Int} {full : List Int} (h : full.length = ls.length) : emK ls tk full 0 = full := by
  refine List.ext_getElem (by rw [emK_len, h]) (fun i h1 h2 => ?_)
  unfold emK
  simp [List.getD_eq_getElem?_getD, h2]
theorem getD_ext {A B : List Int} (hl : A.length = B.length) (h : ∀ i, i < A.length → A.getD i 0 = B.getD i 0) : A = B :=
  List.ext_getElem hl (fun i h1 h2 => by
    have := h i h1
    simpa [List.getD_eq_getElem?_getD, h1, h2] using this)
theorem set_getD {F : List Int} {l k : Nat} {x : Int} (hl : l < F.length) : (F.set l x).getD k 0 = if l = k then x else F.getD k 0 := by
  rw [List.getD_eq_getElem?_getD, List.getElem?_set]
  by_cases h : l = k
  · subst h; simp [hl]
  · simp [h, List.getD_eq_getElem?_getD]
theorem emK_yes {ls : List RLa} {tk : Int} {full : List Int} {k : Nat} (hk : k < ls.length) (h : tk % (ls.getD k zLa).ev = 0) : emK ls tk full (k + 1) = (emK ls tk full k).set k 0 := by
  refine getD_ext (by rw [List.length_set, emK_len, emK_len]) (fun i hi => ?_)
  rw [emK_len] at hi
  rw [set_getD (by rw [emK_len]; exact hk), emK_get hi, emK_get hi]
  by_cases e : k = i
  · subst e; rw [if_pos ⟨by omega, h⟩, if_pos rfl]
  · rw [if_neg e]
    by_cases hik : i < k
    · simp [hik, show i < k + 1 by omega]
    · simp [hik, show ¬ i < k + 1 by omega]
theorem emK_no {ls : List RLa} {tk : Int} {full : List Int} {k : Nat} (hk : k < ls.length) (h : ¬ tk % (ls.getD k zLa).ev = 0) : emK ls tk full (k + 1) = emK ls tk full k := by
  unfold emK
  refine List.map_congr_left (fun i hi => ?_)
  by_cases hik : i = k
  · subst hik; rw [if_neg (fun e => h e.2), if_neg (fun e => by omega)]
  · have : (i < k + 1 ∧ tk % (ls.getD i zLa).ev = 0) ↔ (i < k ∧ tk % (ls.getD i zLa).ev = 0) := by constructor <;> rintro ⟨h1, h2⟩ <;> exact ⟨by omega, h2⟩
    simp only [this]
/-- A parcel that has left the belt for its lane, is rejected, or goes round. -/
def srLeave (ls : List RLa) (ps : List Int) (i r : Nat) (σ : SrS) : SrS :=
  let l := (ps.getD i 0).toNat
  if σ.full.getD l 0 < (ls.getD l zLa).rm then { σ with full := σ.full.set l (σ.full.getD l 0 + 1), out := σ.out.set i σ.tk }
  else if r = 3 then { σ with out := σ.out.set i (-1), rej := σ.rej ++ [(i : Int)] }
  else { σ with belt := σ.belt ++ [(i, r + 1)], rc := σ.rc + 1 }
def srStep (ls : List RLa) (ps : List Int) (i r : Nat) (B : List (Nat × Nat)) (σ : SrS) : SrS :=
  let τ := srLeave ls ps i r { σ with belt := B, full := emK ls σ.tk σ.full ls.length }
  { τ with tk := τ.tk + 1 }
/-- What is still to be done. -/
def wtB (B : List (Nat × Nat)) : Nat := (B.map fun p => 4 - p.2).sum
def srRun (ls : List RLa) (ps : List Int) : Nat → SrS → SrS
  | 0, σ => σ
  | n + 1, σ => match σ.belt with
    | [] => σ
    | (i, r) :: B => srRun ls ps n (srStep ls ps i r B σ)
def srEnd (ls : List RLa) (ps : List Int) (σ : SrS) : SrS := srRun ls ps (wtB σ.belt) σ
theorem wtB_cons (p : Nat × Nat) (B : List (Nat × Nat)) : wtB (p :: B) = (4 - p.2) + wtB B := by unfold wtB; simp
theorem wtB_snoc (p : Nat × Nat) (B : List (Nat × Nat)) : wtB (B ++ [p]) = wtB B + (4 - p.2) := by unfold wtB; simp
/-- No parcel has gone round too often. -/
def RdOK (B : List (Nat × Nat)) : Prop := ∀ p ∈ B, p.2 ≤ 3
theorem leave_belt (ls : List RLa) (ps : List Int) (i r : Nat) (σ : SrS) : (srLeave ls ps i r σ).belt = σ.belt ∨ (r ≠ 3 ∧ (srLeave ls ps i r σ).belt = σ.belt ++ [(i, r + 1)]) := by
  unfold srLeave
  dsimp only
  split
  · exact .inl rfl
  · split
    · exact .inl rfl
    · exact .inr ⟨‹_›, rfl⟩
theorem rd_head {i r : Nat} {B : List (Nat × Nat)} (h : RdOK ((i, r) :: B)) : r ≤ 3 := h (i, r) (by simp)
theorem step_belt (ls : List RLa) (ps : List Int) (i r : Nat) (B : List (Nat × Nat)) (σ : SrS) : (srStep ls ps i r B σ).belt = B ∨ (r ≠ 3 ∧ (srStep ls ps i r B σ).belt = B ++ [(i, r + 1)]) := leave_belt ls ps i r _
theorem step_wt {ls : List RLa} {ps : List Int} {i r : Nat} {B : List (Nat × Nat)} {σ : SrS} (h : r ≤ 3) : wtB (srStep ls ps i r B σ).belt < wtB ((i, r) :: B) := by
  rw [wtB_cons]
  rcases step_belt ls ps i r B σ with e | ⟨h3, e⟩
  · rw [e]; dsimp only; omega
  · rw [e, wtB_snoc]; dsimp only; omega
theorem step_rd {ls : List RLa} {ps : List Int} {i r : Nat} {B : List (Nat × Nat)} {σ : SrS} (h : RdOK ((i, r) :: B)) : RdOK (srStep ls ps i r B σ).belt := by
  have h0 := rd_head h
  have hB : RdOK B := fun p hp => h p (List.mem_cons_of_mem _ hp)
  rcases step_belt ls ps i r B σ with e | ⟨h3, e⟩
  · rw [e]; exact hB
  · rw [e]
    intro p hp
    rcases List.mem_append.1 hp with hp | hp
    · exact hB p hp
    · simp at hp; subst hp; show r + 1 ≤ 3; omega
theorem run_nil {ls : List RLa} {ps : List Int} {σ : SrS} (h : σ.belt = []) : ∀ n, srRun ls ps n σ = σ
  | 0 => rfl
  | n + 1 => by
    show (match σ.belt with | [] => σ | (i, r) :: B => srRun ls ps n (srStep ls ps i r B σ)) = σ
    rw [h]
theorem run_cons {ls : List RLa} {ps : List Int} {σ : SrS} {i r : Nat} {B : List (Nat × Nat)} (h : σ.belt = (i, r) :: B) (n : Nat) : srRun ls ps (n + 1) σ = srRun ls ps n (srStep ls ps i r B σ) := by
  show (match σ.belt with | [] => σ | (i, r) :: B => srRun ls ps n (srStep ls ps i r B σ)) = _
  rw [h]
theorem wt_pos {i r : Nat} {B : List (Nat × Nat)} (h : r ≤ 3) : 0 < wtB ((i, r) :: B) := by rw [wtB_cons]; dsimp only; omega
theorem run_same (ls : List RLa) (ps : List Int) : ∀ (n m : Nat) (σ : SrS), RdOK σ.belt → wtB σ.belt ≤ n → wtB σ.belt ≤ m → srRun ls ps n σ = srRun ls ps m σ := by
  intro n
  induction n with
  | zero =>
    intro m σ hr h _
    cases hb : σ.belt with
    | nil => rw [run_nil hb, run_nil hb]
    | cons p B =>
      obtain ⟨i, r⟩ := p
      rw [hb] at hr h
      have := wt_pos (i := i) (B := B) (rd_head hr)
      omega
  | succ n ih =>
    intro m σ hr h hm
    cases hb : σ.belt with
    | nil => rw [run_nil hb, run_nil hb]
    | cons p B =>
      obtain ⟨i, r⟩ := p
      rw [hb] at hr h hm
      have h0 := rd_head hr
      have hp := wt_pos (i := i) (B := B) h0
      have hw := step_wt (ls := ls) (ps := ps) (B := B) (σ := σ) (i := i) h0
      have hr2 := step_rd (ls := ls) (ps := ps) (σ := σ) hr
      obtain ⟨m', rfl⟩ : ∃ m', m = m' + 1 := ⟨m - 1, by omega⟩
      rw [run_cons hb, run_cons hb]
      exact ih m' _ hr2 (by omega) (by omega)
theorem end_nil {ls : List RLa} {ps : List Int} {σ : SrS} (h : σ.belt = []) : srEnd ls ps σ = σ := run_nil h _
theorem end_cons {ls : List RLa} {ps : List Int} {σ : SrS} {i r : Nat} {B : List (Nat × Nat)} (hr : RdOK σ.belt) (h : σ.belt = (i, r) :: B) : srEnd ls ps σ = srEnd ls ps (srStep ls ps i r B σ) := by
  have hr' := hr
  rw [h] at hr'
  have h0 := rd_head hr'
  have hp := wt_pos (i := i) (B := B) h0
  have hw := step_wt (ls := ls) (ps := ps) (B := B) (σ := σ) (i := i) h0
  have hr2 := step_rd (ls := ls) (ps := ps) (σ := σ) hr'
  unfold srEnd
  rw [h, show wtB ((i, r) :: B) = (wtB ((i, r) :: B) - 1) + 1 by omega, run_cons h]
  exact run_same ls ps _ _ _ hr2 (by omega) (Nat.le_refl _)
/-- What stays so along the way: lengths, numbers, ticks and rounds within bounds. -/
structure SrOK (ls : List RLa) (m : Nat) (σ : SrS) : Prop where
  rd : RdOK σ.belt
  num : ∀ p ∈ σ.belt, p.1 < m
  one : (σ.belt.map Prod.fst).Nodup
  fl : σ.full.length = ls.length
  ol : σ.out.length = m
  tk : 0 ≤ σ.tk ∧ σ.tk + (wtB σ.belt : Int) ≤ 400
  rc : 0 ≤ σ.rc ∧ σ.rc ≤ σ.tk
  fb : ∀ k, k < ls.length → 0 ≤ σ.full.getD k 0 ∧ σ.full.getD k 0 ≤ 100
  rl : σ.rej.length + σ.belt.length ≤ m
theorem nodup_len : ∀ {l : List Nat} {m : Nat}, l.Nodup → (∀ x ∈ l, x < m) → l.length ≤ m := by
  intro l m h hm
  have hs : l ⊆ List.range m := fun x hx => List.mem_range.2 (hm x hx)
  have := List.Nodup.length_le_of_subset h hs
  simpa using this
theorem SrOK.len {ls : List RLa} {m : Nat} {σ : SrS} (h : SrOK ls m σ) : σ.belt.length ≤ m := by
  have := nodup_len h.one (m := m) (fun x hx => by
    obtain ⟨p, hp, rfl⟩ := List.mem_map.1 hx
    exact h.num p hp)
  simpa using this
theorem em_bd {ls : List RLa} {tk : Int} {full : List Int} (h : ∀ k, k < ls.length → 0 ≤ full.getD k 0 ∧ full.getD k 0 ≤ 100) (j k : Nat) (hk : k < ls.length) : 0 ≤ (emK ls tk full j).getD k 0 ∧ (emK ls tk full j).getD k 0 ≤ 100 := by
  rw [emK_get hk]
  split
  · omega
  · exact h k hk
theorem step_ok {ls : List RLa} {ps : List Int} {m i r : Nat} {B : List (Nat × Nat)} {σ : SrS} (hls : lnsB ls = true) (hps : alB 0 ((ls.length : Int) - 1) ps = true) (hm : ps.length = m) (h : SrOK ls m σ) (hb : σ.belt = (i, r) :: B) : SrOK ls m (srStep ls ps i r B σ) := by
  obtain ⟨h1, h2, h3, h4, h5, h6, h7, h8, h9⟩ := h
  rw [hb] at h1 h2 h3 h6 h9
  have hi := h2 (i, r) (by simp)
  have hr := rd_head h1
  dsimp only at hi
  have hl := alB_get hps (k := i) (by omega)
  have hll : (ps.getD i 0).toNat < ls.length := by omega
  have hln := lnB_facts (lnsB_get hls hll)
  have hw := wtB_cons (i, r) B
  dsimp only at hw
  have hw2 := step_wt (ls := ls) (ps := ps) (B := B) (σ := σ) (i := i) hr
  have hwp : 0 < 4 - r := by omega
  simp only [List.map_cons, List.nodup_cons] at h3
  have hem := em_bd (tk := σ.tk) h8 ls.length
  simp only [List.length_cons] at h9
  have hkeep : srStep ls ps i r B σ = srStep ls ps i r B σ := rfl
  have hrd := step_rd (ls := ls) (ps := ps) (σ := σ) h1
  unfold srStep srLeave at hw2 hrd ⊢
  dsimp only at hw2 hrd ⊢
  by_cases c1 : (emK ls σ.tk σ.full ls.length).getD (ps.getD i 0).toNat 0 < (ls.getD (ps.getD i 0).toNat zLa).rm
  · rw [if_pos c1] at hw2 hrd ⊢
    refine ⟨hrd, fun p hp => h2 p (List.mem_cons_of_mem _ hp), h3.2, by show (List.set _ _ _).length = _; rw [List.length_set, emK_len], by show (List.set _ _ _).length = _; rw [List.length_set, h5], ⟨by show 0 ≤ σ.tk + 1; omega, by show σ.tk + 1 + _ ≤ 400; dsimp only at hw2 ⊢; omega⟩, ⟨h7.1, by show σ.rc ≤ σ.tk + 1; omega⟩, fun k hk => ?_, by show σ.rej.length + B.length ≤ m; omega⟩
    show 0 ≤ (List.set _ _ _).getD k 0 ∧ (List.set _ _ _).getD k 0 ≤ 100
    rw [set_getD (by rw [emK_len]; exact hll)]
    split
    · have := hem _ hll; omega
    · exact hem k hk
  · rw [if_neg c1] at hw2 hrd ⊢
    by_cases c2 : r = 3
    · rw [if_pos c2] at hw2 hrd ⊢
      refine ⟨hrd, fun p hp => h2 p (List.mem_cons_of_mem _ hp), h3.2, emK_len _ _ _ _, by show (List.set _ _ _).length = _; rw [List.length_set, h5], ⟨by show 0 ≤ σ.tk + 1; omega, by show σ.tk + 1 + _ ≤ 400; dsimp only at hw2 ⊢; omega⟩, ⟨h7.1, by show σ.rc ≤ σ.tk + 1; omega⟩, hem, by show (σ.rej ++ [_]).length + B.length ≤ m; simp; omega⟩
    · rw [if_neg c2] at hw2 hrd ⊢
      refine ⟨hrd, fun p hp => ?_, ?_, emK_len _ _ _ _, h5, ⟨by show 0 ≤ σ.tk + 1; omega, by show σ.tk + 1 + _ ≤ 400; dsimp only at hw2 ⊢; omega⟩, ⟨by show 0 ≤ σ.rc + 1; omega, by show σ.rc + 1 ≤ σ.tk + 1; omega⟩, hem, by show σ.rej.length + (B ++ [_]).length ≤ m; simp; omega⟩
      · rcases List.mem_append.1 hp with hp | hp
        · exact h2 p (List.mem_cons_of_mem _ hp)
        · simp at hp; subst hp; exact hi
      · show ((B ++ [(i, r + 1)]).map Prod.fst).Nodup
        rw [List.map_append]
        exact List.nodup_append.2 ⟨h3.2, by simp, fun x hx y hy e => by simp at hy; subst hy; subst e; exact h3.1 hx⟩
theorem run_ok {ls : List RLa} {ps : List Int} {m : Nat} (hls : lnsB ls = true) (hps : alB 0 ((ls.length : Int) - 1) ps = true) (hm : ps.length = m) : ∀ (n : Nat) (σ : SrS), SrOK ls m σ → SrOK ls m (srRun ls ps n σ) := by
  intro n
  induction n with
  | zero => exact fun σ h => h
  | succ n ih =>
    intro σ h
    cases hb : σ.belt with
    | nil => rw [run_nil hb]; exact h
    | cons p B =>
      obtain ⟨i, r⟩ := p
      rw [run_cons hb]
      exact ih _ (step_ok hls hps hm h hb)
theorem end_ok {ls : List RLa} {ps : List Int} {m : Nat} (hls : lnsB ls = true) (hps : alB 0 ((ls.length : Int) - 1) ps = true) (hm : ps.length = m) (σ : SrS) (h : SrOK ls m σ) : SrOK ls m (srEnd ls ps σ) := run_ok hls hps hm _ σ h
/-- Where each went does not hang on what stood there ahead, for those on the belt. -/
def AgrO (B : List (Nat × Nat)) (o1 o2 : List Int) : Prop := o1.length = o2.length ∧ ∀ j, j < o1.length → (∀ p ∈ B, p.1 ≠ j) → o1.getD j 0 = o2.getD j 0
structure AgrS (σ τ : SrS) : Prop where
  belt : σ.belt = τ.belt
  full : σ.full = τ.full
  rej : σ.rej = τ.rej
  tk : σ.tk = τ.tk
  rc : σ.rc = τ.rc
  out : AgrO σ.belt σ.out τ.out
theorem agr_set {B : List (Nat × Nat)} {o1 o2 : List Int} {i r : Nat} {x : Int} (h : AgrO ((i, r) :: B) o1 o2) : AgrO B (o1.set i x) (o2.set i x) := by
  obtain ⟨h1, h2⟩ := h
  refine ⟨by simp [h1], fun j hj hn => ?_⟩
  rw [List.length_set] at hj
  by_cases e : i = j
  · subst e
    rw [set_getD hj, set_getD (by omega), if_pos rfl, if_pos rfl]
  · rw [List.getD_eq_getElem?_getD, List.getD_eq_getElem?_getD, List.getElem?_set_ne e, List.getElem?_set_ne e, ← List.getD_eq_getElem?_getD, ← List.getD_eq_getElem?_getD]
    exact h2 j hj (fun p hp => by
      rcases List.mem_cons.1 hp with rfl | hp
      · exact e
      · exact hn p hp)
theorem agr_step {ls : List RLa} {ps : List Int} {i r : Nat} {B : List (Nat × Nat)} {σ τ : SrS} (h : AgrS σ τ) (hb : σ.belt = (i, r) :: B) : AgrS (srStep ls ps i r B σ) (srStep ls ps i r B τ) := by
  obtain ⟨h1, h2, h3, h4, h5, h6⟩ := h
  rw [hb] at h6
  unfold srStep srLeave
  dsimp only
  rw [h2, h4]
  by_cases c1 : (emK ls τ.tk τ.full ls.length).getD (ps.getD i 0).toNat 0 < (ls.getD (ps.getD i 0).toNat zLa).rm
  · rw [if_pos c1, if_pos c1]
    exact ⟨rfl, rfl, h3, rfl, h5, agr_set h6⟩
  · rw [if_neg c1, if_neg c1]
    by_cases c2 : r = 3
    · rw [if_pos c2, if_pos c2]
      exact ⟨rfl, rfl, by show σ.rej ++ _ = τ.rej ++ _; rw [h3], rfl, h5, agr_set h6⟩
    · rw [if_neg c2, if_neg c2]
      refine ⟨rfl, rfl, h3, rfl, by show σ.rc + 1 = τ.rc + 1; rw [h5], h6.1, fun j hj hn => h6.2 j hj (fun p hp => ?_)⟩
      rcases List.mem_cons.1 hp with rfl | hp
      · exact hn (i, r + 1) (by show _ ∈ B ++ [(i, r + 1)]; simp)
      · exact hn p (by show _ ∈ B ++ [(i, r + 1)]; simp [hp])
theorem agr_run {ls : List RLa} {ps : List Int} : ∀ (n : Nat) (σ τ : SrS), AgrS σ τ → AgrS (srRun ls ps n σ) (srRun ls ps n τ) := by
  intro n
  induction n with
  | zero => exact fun σ τ h => h
  | succ n ih =>
    intro σ τ h
    cases hb : σ.belt with
    | nil => rw [run_nil hb, run_nil (h.belt ▸ hb)]; exact h
    | cons p B =>
      obtain ⟨i, r⟩ := p
      rw [run_cons hb, run_cons (h.belt ▸ hb)]
      exact ih _ _ (agr_step h hb)
theorem run_empty {ls : List RLa} {ps : List Int} : ∀ (n : Nat) (σ : SrS), RdOK σ.belt → wtB σ.belt ≤ n → (srRun ls ps n σ).belt = [] := by
  intro n
  induction n with
  | zero =>
    intro σ hr h
    cases hb : σ.belt with
    | nil => rw [run_nil hb]; exact hb
    | cons p B =>
      obtain ⟨i, r⟩ := p
      rw [hb] at hr h
      have := wt_pos (i := i) (B := B) (rd_head hr)
      omega
  | succ n ih =>
    intro σ hr h
    cases hb : σ.belt with
    | nil => rw [run_nil hb]; exact hb
    | cons p B =>
      obtain ⟨i, r⟩ := p
      rw [hb] at hr h
      have hw := step_wt (ls := ls) (ps := ps) (B := B) (σ := σ) (i := i) (rd_head hr)
      rw [run_cons hb]
      exact ih _ (step_rd (ls := ls) (ps := ps) (σ := σ) hr) (by omega)
theorem end_same {ls : List RLa} {ps : List Int} {σ τ : SrS} (hr : RdOK σ.belt) (h : AgrS σ τ) : srEnd ls ps σ = srEnd ls ps τ := by
  have hE := run_empty (ls := ls) (ps := ps) (wtB σ.belt) σ hr (Nat.le_refl _)
  have h2 := agr_run (ls := ls) (ps := ps) (wtB σ.belt) σ τ h
  unfold srEnd
  rw [← h.belt]
  obtain ⟨g1, g2, g3, g4, g5, g6, g7⟩ := h2
  rw [hE] at g7
  have ho : (srRun ls ps (wtB σ.belt) σ).out = (srRun ls ps (wtB σ.belt) τ).out := by
    refine List.ext_getElem g6 (fun j h1 h2 => ?_)
    have := g7 j h1 (fun p hp => by cases hp)
    simpa [List.getD_eq_getElem?_getD, h1, h2] using this
  generalize srRun ls ps (wtB σ.belt) σ = a at *
  generalize srRun ls ps (wtB σ.belt) τ = b at *
  cases a
  cases b
  simp only at g1 g2 g3 g4 g5 ho
  subst g1 g2 g3 g4 g5 ho
  rfl
/-- At the beginning. -/
def beltOf (m : Nat) : List (Nat × Nat) := (List.range m).map fun i => (i, 0)
def srStart (n m : Nat) (x : Int) : SrS := ⟨beltOf m, List.replicate n 0, List.replicate m x, [], 0, 0⟩
theorem beltOf_succ (m : Nat) : beltOf (m + 1) = beltOf m ++ [(m, 0)] := by unfold beltOf; rw [List.range_succ, List.map_append]; rfl
theorem beltOf_wt : ∀ m, wtB (beltOf m) = 4 * m
  | 0 => rfl
  | m + 1 => by rw [beltOf_succ, wtB_snoc, beltOf_wt m]; dsimp only; omega
theorem start_ok (ls : List RLa) (m : Nat) (hm : m ≤ 100) (x : Int) : SrOK ls m (srStart ls.length m x) := by
  have hw := beltOf_wt m
  refine ⟨fun p hp => ?_, fun p hp => ?_, ?_, by show (List.replicate _ _).length = _; simp, by show (List.replicate _ _).length = _; simp, ⟨Int.le_refl _, by show (0 : Int) + (wtB (beltOf m) : Int) ≤ 400; omega⟩, ⟨Int.le_refl _, Int.le_refl _⟩, fun k hk => ?_, ?_⟩
  · obtain ⟨i, _, rfl⟩ := List.mem_map.1 hp; exact Nat.zero_le _
  · obtain ⟨i, hi, rfl⟩ := List.mem_map.1 hp; exact List.mem_range.1 hi
  · show ((beltOf m).map Prod.fst).Nodup
    have : (beltOf m).map Prod.fst = List.range m := by unfold beltOf; rw [List.map_map]; simp [Function.comp_def]
    rw [this]; exact List.nodup_range
  · show 0 ≤ (List.replicate _ _).getD k 0 ∧ (List.replicate _ _).getD k 0 ≤ 100
    have e : (List.replicate ls.length (0 : Int)).getD k 0 = 0 := by simp [List.getD_eq_getElem?_getD, hk]
    rw [e]; omega
  · show 0 + (beltOf m).length ≤ m
    unfold beltOf; simp
/-- What SortRun tells: as if all had stood at x. -/
def srF (ls : List RLa) (ps : List Int) : SrS := srEnd ls ps (srStart ls.length ps.length 0)
theorem srF_any (ls : List RLa) (ps : List Int) (x : Int) : srEnd ls ps (srStart ls.length ps.length x) = srF ls ps := by
  refine end_same (fun p hp => ?_) ⟨rfl, rfl, rfl, rfl, rfl, by show (List.replicate _ _).length = (List.replicate _ _).length; simp, fun j hj hn => ?_⟩
  · obtain ⟨i, _, rfl⟩ := List.mem_map.1 hp; exact Nat.zero_le _
  · have hj' : j < ps.length := by simpa [srStart] using hj
    exact absurd rfl (hn (j, 0) (List.mem_map.2 ⟨j, List.mem_range.2 hj', rfl⟩))
end Go.Proofs.Ythmhpgbkapjjkaa
