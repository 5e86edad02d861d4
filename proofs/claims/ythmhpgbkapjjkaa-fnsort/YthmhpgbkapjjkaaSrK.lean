/-
  What a belt leaves, as mathematics (for FnSort): each parcel once, no lane too full, ticks are parcels and rounds.
-/
import Derived.Test.YthmhpgbkapjjkaaSrM
namespace Go.Proofs.Ythmhpgbkapjjkaa
open Go.ChangeShapes Go.WideShapes Go.ChangeAt Go.RowKit Go.Deep
set_option linter.unusedVariables false

/-- How many of the first m numbers p holds of. -/
def cnt (p : Nat → Bool) : Nat → Nat
  | 0 => 0
  | m + 1 => cnt p m + (if p m then 1 else 0)
theorem cnt_congr {p q : Nat → Bool} : ∀ m, (∀ j, j < m → p j = q j) → cnt p m = cnt q m
  | 0, _ => rfl
  | m + 1, h => by unfold cnt; rw [cnt_congr m (fun j hj => h j (by omega)), h m (by omega)]
theorem cnt_set {p q : Nat → Bool} {i : Nat} (hp : p i = false) : ∀ m, i < m → (∀ j, j < m → j ≠ i → p j = q j) → cnt q m = cnt p m + (if q i then 1 else 0)
  | 0, h, _ => by omega
  | m + 1, h, hq => by
    unfold cnt
    by_cases e : i = m
    · subst e
      rw [cnt_congr i (fun j hj => (hq j (by omega) (by omega)).symm), hp]
      simp
    · rw [cnt_set hp m (by omega) (fun j hj hn => hq j (by omega) hn), hq m (by omega) (fun e2 => e e2.symm)]
      omega
theorem cnt_zero {p : Nat → Bool} : ∀ m, (∀ j, j < m → p j = false) → cnt p m = 0
  | 0, _ => rfl
  | m + 1, h => by unfold cnt; rw [cnt_zero m (fun j hj => h j (by omega)), h m (by omega)]; rfl
/-- It went into lane l within window w. -/
def inW (ps out : List Int) (l ev w : Int) (j : Nat) : Bool := decide (ps.getD j 0 = l ∧ 0 ≤ out.getD j 0 ∧ out.getD j 0 / ev = w)
def wOf (ps out : List Int) (l ev w : Int) : Nat := cnt (inW ps out l ev w) ps.length
def rejB (out : List Int) (j : Nat) : Bool := decide (out.getD j 0 < 0)
/-- What holds all along, ahead of each tick. -/
structure SkI (ls : List RLa) (ps : List Int) (σ : SrS) : Prop where
  mi : ∀ p ∈ σ.belt, σ.out.getD p.1 0 = -1
  tk : σ.tk + (σ.belt.length : Int) = (ps.length : Int) + σ.rc
  bd : ∀ j, j < ps.length → σ.out.getD j 0 = -1 ∨ (0 ≤ σ.out.getD j 0 ∧ σ.out.getD j 0 < σ.tk)
  one : ∀ j k, j < ps.length → k < ps.length → j ≠ k → 0 ≤ σ.out.getD j 0 → σ.out.getD j 0 ≠ σ.out.getD k 0
  rj : cnt (rejB σ.out) ps.length = σ.rej.length + σ.belt.length
  fu : ∀ l, l < ls.length → (emK ls σ.tk σ.full ls.length).getD l 0 = (wOf ps σ.out (l : Int) (ls.getD l zLa).ev (σ.tk / (ls.getD l zLa).ev) : Int)
  wi : ∀ l, l < ls.length → ∀ w, (wOf ps σ.out (l : Int) (ls.getD l zLa).ev w : Int) ≤ (ls.getD l zLa).rm
theorem div_next {t e : Int} (ht : 0 ≤ t) (he : 1 ≤ e) : ((t + 1) % e = 0 ∧ (t + 1) / e = t / e + 1) ∨ ((t + 1) % e ≠ 0 ∧ (t + 1) / e = t / e) := by
  have h1 := Int.emod_add_mul_ediv t e
  have h2 := Int.emod_nonneg t (show e ≠ 0 by omega)
  have h3 := Int.emod_lt_of_pos t (show 0 < e by omega)
  by_cases h : t % e + 1 = e
  · left
    have e1 : t + 1 = e * (t / e + 1) := by rw [Int.mul_add, Int.mul_one]; omega
    constructor
    · rw [e1]; exact Int.mul_emod_right _ _
    · rw [e1]; exact Int.mul_ediv_cancel_left _ (by omega)
  · right
    have e1 : t + 1 = (t % e + 1) + e * (t / e) := by omega
    have e2 : (t + 1) % e = t % e + 1 := by rw [e1, Int.add_mul_emod_self_left]; exact Int.emod_eq_of_lt (by omega) (by omega)
    refine ⟨by omega, ?_⟩
    rw [e1, Int.add_mul_ediv_left _ _ (show e ≠ 0 by omega), Int.ediv_eq_zero_of_lt (by omega) (by omega)]
    omega
/-- Into the next tick: a full list F that counts window tk / ev, counts the next one once emptied. -/
theorem em_next {ls : List RLa} {ps out F : List Int} {t : Int} (ht : 0 ≤ t) (hls : lnsB ls = true) (hbd : ∀ j, j < ps.length → out.getD j 0 ≤ t) {l : Nat} (hl : l < ls.length) (hF : F.getD l 0 = (wOf ps out (l : Int) (ls.getD l zLa).ev (t / (ls.getD l zLa).ev) : Int)) :
    (emK ls (t + 1) F ls.length).getD l 0 = (wOf ps out (l : Int) (ls.getD l zLa).ev ((t + 1) / (ls.getD l zLa).ev) : Int) := by
  have he := (lnB_facts (lnsB_get hls hl)).2.1
  rw [emK_get hl]
  rcases div_next ht he with ⟨h1, h2⟩ | ⟨h1, h2⟩
  · rw [if_pos ⟨hl, h1⟩, h2]
    have : wOf ps out (l : Int) (ls.getD l zLa).ev (t / (ls.getD l zLa).ev + 1) = 0 := by
      refine cnt_zero _ (fun j hj => ?_)
      unfold inW
      refine decide_eq_false (fun ⟨_, _, h5⟩ => ?_)
      have h6 : out.getD j 0 / (ls.getD l zLa).ev ≤ t / (ls.getD l zLa).ev := Int.ediv_le_ediv (by omega) (hbd j hj)
      omega
    rw [this]; rfl
  · rw [if_neg (fun e => h1 e.2), h2]; exact hF
theorem out_same {out : List Int} {i : Nat} (h : out.getD i 0 = -1) : out.set i (-1) = out := by
  refine getD_ext (by simp) (fun j hj => ?_)
  rw [List.length_set] at hj
  by_cases e : i = j
  · subst e; rw [set_getD hj, if_pos rfl, h]
  · by_cases hi : i < out.length
    · rw [set_getD hi, if_neg e]
    · rw [List.set_eq_of_length_le (by omega)]
theorem sk_step {ls : List RLa} {ps : List Int} {i r : Nat} {B : List (Nat × Nat)} {σ : SrS} (hls : lnsB ls = true) (hps : alB 0 ((ls.length : Int) - 1) ps = true) (hok : SrOK ls ps.length σ) (hb : σ.belt = (i, r) :: B) (h : SkI ls ps σ) : SkI ls ps (srStep ls ps i r B σ) := by
  obtain ⟨h1, h2, h3, h4, h5, h6, h7⟩ := h
  rw [hb] at h1 h2 h5
  have hno := hok.one
  rw [hb] at hno
  simp only [List.map_cons, List.nodup_cons] at hno
  have hi : i < ps.length := hok.num (i, r) (by rw [hb]; simp)
  have hio : σ.out.getD i 0 = -1 := h1 (i, r) (by simp)
  have hol := hok.ol
  have htk := hok.tk.1
  have hl0 := alB_get hps hi
  have hl : (ps.getD i 0).toNat < ls.length := by omega
  have hlz : ((ps.getD i 0).toNat : Int) = ps.getD i 0 := by omega
  have hB : ∀ p ∈ B, σ.out.getD p.1 0 = -1 ∧ i ≠ p.1 := fun p hp => ⟨h1 p (List.mem_cons_of_mem _ hp), fun e => hno.1 (by rw [e]; exact List.mem_map.2 ⟨p, hp, rfl⟩)⟩
  simp only [List.length_cons] at h2 h5
  have hbd0 : ∀ j, j < ps.length → σ.out.getD j 0 ≤ σ.tk := fun j hj => by rcases h3 j hj with e | ⟨_, e⟩ <;> omega
  unfold srStep srLeave
  dsimp only
  by_cases c1 : (emK ls σ.tk σ.full ls.length).getD (ps.getD i 0).toNat 0 < (ls.getD (ps.getD i 0).toNat zLa).rm
  · rw [if_pos c1]
    have hget : ∀ j, (σ.out.set i σ.tk).getD j 0 = if i = j then σ.tk else σ.out.getD j 0 := fun j => set_getD (by omega)
    have hW : ∀ l, l < ls.length → ∀ w, wOf ps (σ.out.set i σ.tk) (l : Int) (ls.getD l zLa).ev w = wOf ps σ.out (l : Int) (ls.getD l zLa).ev w + (if ps.getD i 0 = (l : Int) ∧ σ.tk / (ls.getD l zLa).ev = w then 1 else 0) := fun l hl w => by
      unfold wOf
      rw [cnt_set (p := inW ps σ.out (l : Int) (ls.getD l zLa).ev w) (q := inW ps (σ.out.set i σ.tk) (l : Int) (ls.getD l zLa).ev w) (i := i) (by unfold inW; rw [hio]; exact decide_eq_false (fun e => by omega)) ps.length hi (fun j hj hn => by unfold inW; rw [hget j, if_neg (fun e => hn e.symm)])]
      congr 1
      unfold inW
      rw [hget i, if_pos rfl]
      by_cases c : ps.getD i 0 = (l : Int) ∧ σ.tk / (ls.getD l zLa).ev = w
      · rw [if_pos c, decide_eq_true (⟨c.1, htk, c.2⟩ : _ ∧ _ ∧ _)]; rfl
      · rw [if_neg c, decide_eq_false (fun e => c ⟨e.1, e.2.2⟩)]; rfl
    refine ⟨fun p hp => ?_, by show σ.tk + 1 + (B.length : Int) = _ + σ.rc; omega, fun j hj => ?_, fun j k hj hk hn h0 => ?_, ?_, fun l hl2 => ?_, fun l hl2 w => ?_⟩
    · show (σ.out.set i σ.tk).getD p.1 0 = -1
      rw [hget, if_neg (hB p hp).2]; exact (hB p hp).1
    · show (σ.out.set i σ.tk).getD j 0 = -1 ∨ (0 ≤ (σ.out.set i σ.tk).getD j 0 ∧ (σ.out.set i σ.tk).getD j 0 < σ.tk + 1)
      rw [hget]
      split
      · omega
      · rcases h3 j hj with e | ⟨e1, e2⟩ <;> omega
    · show (σ.out.set i σ.tk).getD j 0 ≠ (σ.out.set i σ.tk).getD k 0
      have h0' : 0 ≤ (σ.out.set i σ.tk).getD j 0 := h0
      rw [hget] at h0' ⊢
      rw [hget]
      by_cases e1 : i = j
      · rw [if_pos e1, if_neg (by omega)]
        rcases h3 k hk with e | ⟨_, e⟩ <;> omega
      · rw [if_neg e1] at h0' ⊢
        by_cases e2 : i = k
        · rw [if_pos e2]
          rcases h3 j hj with e | ⟨_, e⟩ <;> omega
        · rw [if_neg e2]
          exact h4 j k hj hk hn h0'
    · show cnt (rejB (σ.out.set i σ.tk)) ps.length = σ.rej.length + B.length
      have := cnt_set (p := rejB (σ.out.set i σ.tk)) (q := rejB σ.out) (i := i) (by unfold rejB; rw [hget, if_pos rfl]; exact decide_eq_false (by omega)) ps.length hi (fun j hj hn => by unfold rejB; rw [hget, if_neg (fun e => hn e.symm)])
      rw [h5] at this
      have e1 : rejB σ.out i = true := by unfold rejB; rw [hio]; rfl
      rw [e1, if_pos rfl] at this
      omega
    · show (emK ls (σ.tk + 1) ((emK ls σ.tk σ.full ls.length).set (ps.getD i 0).toNat _) ls.length).getD l 0 = _
      refine em_next (out := σ.out.set i σ.tk) htk hls (fun j hj => ?_) hl2 ?_
      · rw [hget]
        split
        · omega
        · exact hbd0 j hj
      · rw [set_getD (by rw [emK_len]; exact hl), hW l hl2]
        by_cases e : (ps.getD i 0).toNat = l
        · subst e
          rw [if_pos rfl, if_pos ⟨hlz.symm, rfl⟩, h6 _ hl]
          omega
        · rw [if_neg e, if_neg (fun e2 => e (by omega)), h6 l hl2]
          rfl
    · show (wOf ps (σ.out.set i σ.tk) (l : Int) (ls.getD l zLa).ev w : Int) ≤ _
      rw [hW l hl2]
      by_cases c : ps.getD i 0 = (l : Int) ∧ σ.tk / (ls.getD l zLa).ev = w
      · rw [if_pos c]
        have e : (ps.getD i 0).toNat = l := by omega
        rw [e, h6 l hl2, c.2] at c1
        omega
      · rw [if_neg c]
        have := h7 l hl2 w
        omega
  · rw [if_neg c1]
    have hfu : ∀ l, l < ls.length → (emK ls (σ.tk + 1) (emK ls σ.tk σ.full ls.length) ls.length).getD l 0 = (wOf ps σ.out (l : Int) (ls.getD l zLa).ev ((σ.tk + 1) / (ls.getD l zLa).ev) : Int) := fun l hl2 => em_next htk hls hbd0 hl2 (h6 l hl2)
    have hbd1 : ∀ j, j < ps.length → σ.out.getD j 0 = -1 ∨ (0 ≤ σ.out.getD j 0 ∧ σ.out.getD j 0 < σ.tk + 1) := fun j hj => by rcases h3 j hj with e | ⟨e1, e2⟩ <;> omega
    by_cases c2 : r = 3
    · rw [if_pos c2, out_same hio]
      exact ⟨fun p hp => (hB p hp).1, by show σ.tk + 1 + (B.length : Int) = _ + σ.rc; omega, hbd1, h4, by show cnt (rejB σ.out) ps.length = (σ.rej ++ [(i : Int)]).length + B.length; rw [h5]; simp; omega, hfu, h7⟩
    · rw [if_neg c2]
      refine ⟨fun p hp => ?_, by show σ.tk + 1 + ((B ++ [(i, r + 1)]).length : Int) = _ + (σ.rc + 1); simp; omega, hbd1, h4, by show cnt (rejB σ.out) ps.length = σ.rej.length + (B ++ [(i, r + 1)]).length; rw [h5]; simp, hfu, h7⟩
      rcases List.mem_append.1 hp with hp | hp
      · exact (hB p hp).1
      · simp at hp; subst hp; exact hio
theorem sk_run {ls : List RLa} {ps : List Int} (hls : lnsB ls = true) (hps : alB 0 ((ls.length : Int) - 1) ps = true) : ∀ (n : Nat) (σ : SrS), SrOK ls ps.length σ → SkI ls ps σ → SkI ls ps (srRun ls ps n σ) := by
  intro n
  induction n with
  | zero => exact fun σ _ h => h
  | succ n ih =>
    intro σ h h2
    cases hb : σ.belt with
    | nil => rw [run_nil hb]; exact h2
    | cons p B =>
      obtain ⟨i, r⟩ := p
      rw [run_cons hb]
      exact ih _ (step_ok hls hps rfl h hb) (sk_step hls hps h hb h2)
theorem sk_start {ls : List RLa} {ps : List Int} (hls : lnsB ls = true) : SkI ls ps (srStart ls.length ps.length (-1)) := by
  have hout : ∀ j, j < ps.length → (List.replicate ps.length (-1 : Int)).getD j 0 = -1 := fun j hj => by simp [List.getD_eq_getElem?_getD, hj]
  have hw : ∀ (l ev w : Int), wOf ps (List.replicate ps.length (-1)) l ev w = 0 := fun l ev w => cnt_zero _ (fun j hj => by unfold inW; rw [hout j hj]; exact decide_eq_false (fun e => by omega))
  have hcnt : ∀ m, m ≤ ps.length → cnt (rejB (List.replicate ps.length (-1))) m = m := by
    intro m
    induction m with
    | zero => intro _; rfl
    | succ m ih =>
      intro h
      unfold cnt
      rw [ih (by omega)]
      have : rejB (List.replicate ps.length (-1)) m = true := by unfold rejB; rw [hout m (by omega)]; rfl
      rw [this]; rfl
  refine ⟨fun p hp => ?_, ?_, fun j hj => .inl (hout j hj), fun j k hj _ _ h0 => ?_, ?_, fun l hl => ?_, fun l hl w => ?_⟩
  · obtain ⟨i, hi, rfl⟩ := List.mem_map.1 hp
    exact hout i (List.mem_range.1 hi)
  · show (0 : Int) + ((beltOf ps.length).length : Int) = (ps.length : Int) + 0
    unfold beltOf; simp
  · have h1 : 0 ≤ (List.replicate ps.length (-1 : Int)).getD j 0 := h0
    rw [hout j hj] at h1
    omega
  · show cnt (rejB (List.replicate ps.length (-1))) ps.length = 0 + (beltOf ps.length).length
    rw [hcnt _ (Nat.le_refl _)]
    unfold beltOf; simp
  · show (emK ls 0 (List.replicate ls.length 0) ls.length).getD l 0 = (wOf ps (List.replicate ps.length (-1)) _ _ _ : Int)
    rw [hw, emK_get hl]
    split
    · rfl
    · simp [List.getD_eq_getElem?_getD, hl]
  · show (wOf ps (List.replicate ps.length (-1)) _ _ _ : Int) ≤ _
    rw [hw]
    have := (lnB_facts (lnsB_get hls hl)).1
    omega
/-- What FnSort asks. -/
theorem sort_facts {ls : List RLa} {ps : List Int} (hls : lnsB ls = true) (hps : alB 0 ((ls.length : Int) - 1) ps = true) (h1 : ps.length ≤ 100) :
    (srF ls ps).out.length = ps.length ∧ (srF ls ps).tk = (ps.length : Int) + (srF ls ps).rc ∧ (0 ≤ (srF ls ps).tk ∧ (srF ls ps).tk ≤ 400) ∧
    (∀ j, j < ps.length → (srF ls ps).out.getD j 0 = -1 ∨ (0 ≤ (srF ls ps).out.getD j 0 ∧ (srF ls ps).out.getD j 0 < (srF ls ps).tk)) ∧
    (∀ j k, j < ps.length → k < ps.length → j ≠ k → 0 ≤ (srF ls ps).out.getD j 0 → (srF ls ps).out.getD j 0 ≠ (srF ls ps).out.getD k 0) ∧
    cnt (rejB (srF ls ps).out) ps.length = (srF ls ps).rej.length ∧
    (∀ l, l < ls.length → ∀ w, (wOf ps (srF ls ps).out (l : Int) (ls.getD l zLa).ev w : Int) ≤ (ls.getD l zLa).rm) := by
  rw [← srF_any ls ps (-1)]
  have h0 := start_ok ls ps.length h1 (-1)
  have hk := sk_run hls hps (wtB (srStart ls.length ps.length (-1)).belt) _ h0 (sk_start hls)
  have ho := end_ok hls hps rfl _ h0
  have he := run_empty (ls := ls) (ps := ps) (wtB (srStart ls.length ps.length (-1)).belt) _ h0.rd (Nat.le_refl _)
  obtain ⟨k1, k2, k3, k4, k5, k6, k7⟩ := hk
  have hE : (srEnd ls ps (srStart ls.length ps.length (-1))).belt = [] := he
  have k2' : (srEnd ls ps (srStart ls.length ps.length (-1))).tk + ((srEnd ls ps (srStart ls.length ps.length (-1))).belt.length : Int) = (ps.length : Int) + (srEnd ls ps (srStart ls.length ps.length (-1))).rc := k2
  have k5' : cnt (rejB (srEnd ls ps (srStart ls.length ps.length (-1))).out) ps.length = (srEnd ls ps (srStart ls.length ps.length (-1))).rej.length + (srEnd ls ps (srStart ls.length ps.length (-1))).belt.length := k5
  rw [hE] at k2' k5'
  have htk := ho.tk
  exact ⟨ho.ol, by simpa using k2', ⟨htk.1, by omega⟩, k3, k4, by simpa using k5', k7⟩
end Go.Proofs.Ythmhpgbkapjjkaa
