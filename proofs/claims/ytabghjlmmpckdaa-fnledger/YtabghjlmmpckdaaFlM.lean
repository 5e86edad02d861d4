/-
  What a ledger's lists say along the events: which are refused, which coupons are used, what each card has; nothing of the program is in it.
-/
import Derived.Test.YtabghjlmmpckdaaLgA
namespace Go.Proofs.Ytabghjlmmpckdaa
open Go.ChangeShapes Go.WideShapes Go.ChangeAt Go.RowKit Go.Deep
set_option linter.unusedVariables false

/-- Event i is refused. -/
def rfB (rs : List REv) (i : Nat) : Bool := !(lgTake (lgAt rs i) (rs.getD i zEv).kd (rs.getD i zEv).cd (rs.getD i zEv).am).1
theorem fs_succ (rs : List REv) (i : Nat) : (lgAt rs (i + 1)).fs = (lgAt rs i).fs ++ (if rfB rs i = true then [i] else []) := by
  show (lgStep rs i (lgAt rs i)).fs = _
  unfold lgStep lgRef rfB
  have h := lgTake_fs (lgAt rs i) (rs.getD i zEv).kd (rs.getD i zEv).cd (rs.getD i zEv).am
  generalize lgTake (lgAt rs i) (rs.getD i zEv).kd (rs.getD i zEv).cd (rs.getD i zEv).am = t at *
  obtain ⟨b, g⟩ := t
  dsimp only at h ⊢
  cases b
  · rw [if_neg (by decide), if_pos (show (!false) = true from rfl)]; show g.fs ++ [i] = _; rw [h]
  · rw [if_pos rfl, if_neg (show ¬ (!true) = true by decide), List.append_nil, h]
theorem fs_ext (rs : List REv) : ∀ (d i : Nat), ∃ t, (lgAt rs (i + d)).fs = (lgAt rs i).fs ++ t ∧ ∀ x ∈ t, i ≤ x
  | 0, i => ⟨[], by simp, fun x hx => by simp at hx⟩
  | d + 1, i => by
    obtain ⟨t, h1, h2⟩ := fs_ext rs d i
    refine ⟨t ++ (if rfB rs (i + d) = true then [i + d] else []), by rw [show i + (d + 1) = i + d + 1 by omega, fs_succ, h1, List.append_assoc], fun x hx => ?_⟩
    rcases List.mem_append.1 hx with h | h
    · exact h2 x h
    · split at h
      · simp at h; omega
      · simp at h
theorem ref_yes {rs : List REv} {n i : Nat} (hi : i < n) (h : rfB rs i = true) : (lgAt rs i).fs.length < (lgAt rs n).fs.length ∧ (lgAt rs n).fs.getD (lgAt rs i).fs.length 0 = i := by
  obtain ⟨t, h1, _⟩ := fs_ext rs (n - (i + 1)) (i + 1)
  rw [show i + 1 + (n - (i + 1)) = n by omega, fs_succ, if_pos h] at h1
  rw [h1]
  simp [List.getD_eq_getElem?_getD]
theorem ref_no {rs : List REv} {n i : Nat} (hi : i < n) (h : rfB rs i = false) (hl : (lgAt rs i).fs.length < (lgAt rs n).fs.length) : i < (lgAt rs n).fs.getD (lgAt rs i).fs.length 0 := by
  obtain ⟨t, h1, h2⟩ := fs_ext rs (n - (i + 1)) (i + 1)
  rw [show i + 1 + (n - (i + 1)) = n by omega, fs_succ, if_neg (by rw [h]; decide), List.append_nil] at h1
  rw [h1] at hl ⊢
  rw [List.length_append] at hl
  have e : ((lgAt rs i).fs ++ t).getD (lgAt rs i).fs.length 0 = t.getD 0 0 := by simp only [List.getD_eq_getElem?_getD]; rw [List.getElem?_append_right (Nat.le_refl _), Nat.sub_self]
  rw [e]
  cases t with
  | nil => simp at hl
  | cons x t => have := h2 x (by simp); show i < x; omega
theorem fs_len {rs : List REv} (i : Nat) : (lgAt rs (i + 1)).fs.length = (lgAt rs i).fs.length + (if rfB rs i = true then 1 else 0) := by
  rw [fs_succ, List.length_append]
  split <;> simp
theorem us_coupon {rs : List REv} {i : Nat} (hk : (rs.getD i zEv).kd = 3) : rfB rs i = hasB (lgAt rs i).us (rs.getD i zEv).cd ∧ (lgAt rs (i + 1)).us = (if hasB (lgAt rs i).us (rs.getD i zEv).cd = true then (lgAt rs i).us else (lgAt rs i).us ++ [(rs.getD i zEv).cd]) := by
  have hs : lgAt rs (i + 1) = lgRef i (lgTake (lgAt rs i) (rs.getD i zEv).kd (rs.getD i zEv).cd (rs.getD i zEv).am) := rfl
  rw [hs]
  unfold rfB lgTake lgRef
  rw [if_pos hk]
  cases h : hasB (lgAt rs i).us (rs.getD i zEv).cd
  · exact ⟨rfl, rfl⟩
  · exact ⟨rfl, rfl⟩
theorem us_card {rs : List REv} {i : Nat} (hk : ¬ (rs.getD i zEv).kd = 3) : (lgAt rs (i + 1)).us = (lgAt rs i).us := by
  have hs : lgAt rs (i + 1) = lgRef i (lgTake (lgAt rs i) (rs.getD i zEv).kd (rs.getD i zEv).cd (rs.getD i zEv).am) := rfl
  have ht : (lgTake (lgAt rs i) (rs.getD i zEv).kd (rs.getD i zEv).cd (rs.getD i zEv).am).2.us = (lgAt rs i).us := by
    unfold lgTake
    rw [if_neg hk]
    split
    · rfl
    · split <;> rfl
  rw [hs, ← ht]
  unfold lgRef
  split <;> rfl
/-! ### Cards by their names -/
def cdVal (cs : List RCd) (nm : ByteArray) : Int × Int := match cdIx cs nm with
  | some j => ((cs.getD j zCd).ld, (cs.getD j zCd).sp)
  | none => (0, 0)
theorem cdIx_some {cs : List RCd} {nm : ByteArray} {k : Nat} (h : cdIx cs nm = some k) : k < cs.length ∧ ((cs.getD k zCd).nm.toList == nm.toList) = true ∧ ∀ j, j < k → ((cs.getD j zCd).nm.toList == nm.toList) = false := by
  unfold cdIx at h
  rw [List.find?_range_eq_some] at h
  exact ⟨by simpa using h.2.1, h.1, fun j hj => by have := h.2.2 j hj; simpa using this⟩
theorem cdIx_no {cs : List RCd} {nm : ByteArray} (h : cdIx cs nm = none) (j : Nat) (hj : j < cs.length) : ((cs.getD j zCd).nm.toList == nm.toList) = false := by
  unfold cdIx at h
  rw [List.find?_range_eq_none] at h
  have := h j hj
  simpa using this
theorem getD_app_l (cs : List RCd) (c : RCd) {j : Nat} (h : j < cs.length) : (cs ++ [c]).getD j zCd = cs.getD j zCd := by simp only [List.getD_eq_getElem?_getD]; rw [List.getElem?_append_left h]
theorem getD_app_r (cs : List RCd) (c : RCd) : (cs ++ [c]).getD cs.length zCd = c := by simp [List.getD_eq_getElem?_getD]
theorem cdIx_app (cs : List RCd) (c : RCd) (nm : ByteArray) : cdIx (cs ++ [c]) nm = match cdIx cs nm with
    | some j => some j
    | none => if (c.nm.toList == nm.toList) = true then some cs.length else none := by
  cases h : cdIx cs nm with
  | some j =>
    obtain ⟨h1, h2, h3⟩ := cdIx_some h
    exact cdIx_at (by simp; omega) (fun i hi => by rw [getD_app_l _ _ (by omega)]; exact h3 i hi) (by rw [getD_app_l _ _ h1]; exact h2)
  | none =>
    have h1 := cdIx_no h
    cases hc : (c.nm.toList == nm.toList)
    · rw [if_neg (by decide)]
      refine cdIx_none (fun j hj => ?_)
      by_cases e : j = cs.length
      · rw [e, getD_app_r]; exact hc
      · have hj2 : j < cs.length := by simp at hj; omega
        rw [getD_app_l _ _ hj2]; exact h1 j hj2
    · rw [if_pos rfl]
      exact cdIx_at (by simp) (fun i hi => by rw [getD_app_l _ _ hi]; exact h1 i hi) (by rw [getD_app_r]; exact hc)
theorem cdIx_set (cs : List RCd) (p : Nat) (c : RCd) (nm : ByteArray) (hn : c.nm = (cs.getD p zCd).nm) : cdIx (cs.set p c) nm = cdIx cs nm := by
  have hg : ∀ j, j < cs.length → ((cs.set p c).getD j zCd).nm = (cs.getD j zCd).nm := fun j hj => by
    by_cases e : p = j
    · subst e; rw [show (cs.set p c).getD p zCd = c by simp [List.getD_eq_getElem?_getD, hj]]; exact hn
    · simp only [List.getD_eq_getElem?_getD]; rw [List.getElem?_set, if_neg e]
  cases h : cdIx cs nm with
  | some j =>
    obtain ⟨h1, h2, h3⟩ := cdIx_some h
    exact cdIx_at (by rw [List.length_set]; exact h1) (fun i hi => by rw [hg i (by omega)]; exact h3 i hi) (by rw [hg j h1]; exact h2)
  | none => exact cdIx_none (fun j hj => by rw [List.length_set] at hj; rw [hg j hj]; exact cdIx_no h j hj)
theorem beq_trans {a b c : ByteArray} (h1 : (a.toList == b.toList) = true) (h2 : (a.toList == c.toList) = true) : b.toList = c.toList := by
  rw [beq_iff_eq] at h1 h2; rw [← h1, h2]
theorem cdIx_self (cs : List RCd) (nm : ByteArray) : cdIx (lgCs cs nm (cdIx cs nm)) nm = some (lgPl cs (cdIx cs nm)) := by
  cases h : cdIx cs nm with
  | some j => exact h
  | none =>
    show cdIx (cs ++ [⟨nm, 0, 0, 0⟩]) nm = some cs.length
    rw [cdIx_app, h]
    exact if_pos (by simp)
theorem cdVal_cs (cs : List RCd) (nm' nm : ByteArray) : cdVal (lgCs cs nm' (cdIx cs nm')) nm = cdVal cs nm := by
  cases h : cdIx cs nm' with
  | some j => rfl
  | none =>
    show cdVal (cs ++ [⟨nm', 0, 0, 0⟩]) nm = _
    unfold cdVal
    rw [cdIx_app]
    cases h2 : cdIx cs nm with
    | some j =>
      dsimp only
      rw [getD_app_l _ _ (cdIx_lt h2)]
    | none =>
      dsimp only
      by_cases e : (nm'.toList == nm.toList) = true
      · rw [if_pos e]; dsimp only; rw [getD_app_r]
      · rw [if_neg e]
theorem cdVal_set {cs : List RCd} {p : Nat} {c : RCd} {nm' : ByteArray} (nm : ByteArray) (hp : cdIx cs nm' = some p) (hn : c.nm = (cs.getD p zCd).nm) : cdVal (cs.set p c) nm = if nm'.toList = nm.toList then (c.ld, c.sp) else cdVal cs nm := by
  obtain ⟨h1, h2, h3⟩ := cdIx_some hp
  unfold cdVal
  rw [cdIx_set cs p c nm hn]
  have hsame : (cs.set p c).getD p zCd = c := by simp [List.getD_eq_getElem?_getD, h1]
  by_cases e : nm'.toList = nm.toList
  · have : cdIx cs nm = some p := by
      have hh : cdIx cs nm = cdIx cs nm' := by unfold cdIx; rw [e]
      rw [hh, hp]
    rw [if_pos e, this]
    dsimp only
    rw [hsame]
  · rw [if_neg e]
    cases h4 : cdIx cs nm with
    | none => rfl
    | some j =>
      obtain ⟨k1, k2, _⟩ := cdIx_some h4
      have hne : p ≠ j := fun q => by subst q; exact e (beq_trans h2 k2)
      dsimp only
      rw [show (cs.set p c).getD j zCd = cs.getD j zCd by simp only [List.getD_eq_getElem?_getD]; rw [List.getElem?_set, if_neg hne]]
/-- What the card nm has behind i events, and the step. -/
def cvAt (rs : List REv) (nm : ByteArray) (i : Nat) : Int × Int := cdVal (lgAt rs i).cs nm
def lfOf (cs : List RCd) (nm : ByteArray) : Int := ((lgCs cs nm (cdIx cs nm)).getD (lgPl cs (cdIx cs nm)) zCd).lf
theorem lfOf_val {k : Nat} {g : Lg} (h : LgOK k g) (nm : ByteArray) : lfOf g.cs nm = (cdVal g.cs nm).1 - (cdVal g.cs nm).2 := by
  unfold lfOf cdVal
  cases hx : cdIx g.cs nm with
  | none => show ((g.cs ++ [(⟨nm, 0, 0, 0⟩ : RCd)]).getD g.cs.length zCd).lf = _; rw [getD_app_r]; rfl
  | some j => exact (getCd' h.cd (cdIx_lt hx)).2.2.2.2.2.2
theorem cv_coupon {rs : List REv} {i : Nat} (nm : ByteArray) (hk : (rs.getD i zEv).kd = 3) : cvAt rs nm (i + 1) = cvAt rs nm i := by
  have hs : lgAt rs (i + 1) = lgRef i (lgTake (lgAt rs i) (rs.getD i zEv).kd (rs.getD i zEv).cd (rs.getD i zEv).am) := rfl
  unfold cvAt
  rw [hs]
  unfold lgTake lgRef
  rw [if_pos hk]
  cases h : hasB (lgAt rs i).us (rs.getD i zEv).cd
  · rfl
  · rfl
theorem cv_load {rs : List REv} {i : Nat} (nm : ByteArray) (hk : (rs.getD i zEv).kd = 1) : rfB rs i = false ∧ cvAt rs nm (i + 1) = if (rs.getD i zEv).cd.toList = nm.toList then ((cvAt rs nm i).1 + (rs.getD i zEv).am, (cvAt rs nm i).2) else cvAt rs nm i := by
  have hs : lgAt rs (i + 1) = lgRef i (lgTake (lgAt rs i) (rs.getD i zEv).kd (rs.getD i zEv).cd (rs.getD i zEv).am) := rfl
  unfold cvAt rfB
  rw [hs]
  generalize lgAt rs i = g
  generalize rs.getD i zEv = e at *
  unfold lgTake lgRef
  rw [if_neg (by omega), if_pos hk, if_pos rfl]
  refine ⟨rfl, ?_⟩
  dsimp only
  rw [cdVal_set (c := ldC ((lgCs g.cs e.cd (cdIx g.cs e.cd)).getD (lgPl g.cs (cdIx g.cs e.cd)) zCd) e.am) nm (cdIx_self g.cs e.cd) rfl, cdVal_cs]
  by_cases h : e.cd.toList = nm.toList
  · rw [if_pos h, if_pos h]
    have h1 := cdVal_cs g.cs e.cd nm
    have h2 : cdIx (lgCs g.cs e.cd (cdIx g.cs e.cd)) nm = some (lgPl g.cs (cdIx g.cs e.cd)) := by
      have := cdIx_self g.cs e.cd
      unfold cdIx at this ⊢
      rw [← h]; exact this
    rw [← h1]
    unfold cdVal
    rw [h2]
    rfl
  · rw [if_neg h, if_neg h]
theorem cv_spend {rs : List REv} {i : Nat} (nm : ByteArray) (hk : (rs.getD i zEv).kd = 2) (hok : LgOK i (lgAt rs i)) : rfB rs i = decide ((cvAt rs (rs.getD i zEv).cd i).1 - (cvAt rs (rs.getD i zEv).cd i).2 < (rs.getD i zEv).am) ∧
    cvAt rs nm (i + 1) = if (rs.getD i zEv).cd.toList = nm.toList ∧ rfB rs i = false then ((cvAt rs nm i).1, (cvAt rs nm i).2 + (rs.getD i zEv).am) else cvAt rs nm i := by
  have hs : lgAt rs (i + 1) = lgRef i (lgTake (lgAt rs i) (rs.getD i zEv).kd (rs.getD i zEv).cd (rs.getD i zEv).am) := rfl
  unfold cvAt
  rw [hs]
  have hv := lfOf_val hok (rs.getD i zEv).cd
  unfold lfOf at hv
  have hrf : rfB rs i = !(lgTake (lgAt rs i) (rs.getD i zEv).kd (rs.getD i zEv).cd (rs.getD i zEv).am).1 := rfl
  rw [hrf]
  generalize lgAt rs i = g at *
  generalize rs.getD i zEv = e at *
  unfold lgTake lgRef
  rw [if_neg (by omega), if_neg (by omega), ← hv]
  by_cases hl : ((lgCs g.cs e.cd (cdIx g.cs e.cd)).getD (lgPl g.cs (cdIx g.cs e.cd)) zCd).lf < e.am
  · rw [if_pos hl, decide_eq_true hl]
    refine ⟨rfl, ?_⟩
    rw [if_neg (by simp), if_neg (by rintro ⟨_, h⟩; simp at h)]
    exact cdVal_cs g.cs e.cd nm
  · rw [if_neg hl, decide_eq_false hl]
    refine ⟨rfl, ?_⟩
    rw [if_pos rfl]
    dsimp only
    rw [cdVal_set (c := spC ((lgCs g.cs e.cd (cdIx g.cs e.cd)).getD (lgPl g.cs (cdIx g.cs e.cd)) zCd) e.am) nm (cdIx_self g.cs e.cd) rfl, cdVal_cs]
    by_cases h : e.cd.toList = nm.toList
    · rw [if_pos h, if_pos ⟨h, rfl⟩]
      have h1 := cdVal_cs g.cs e.cd nm
      have h2 : cdIx (lgCs g.cs e.cd (cdIx g.cs e.cd)) nm = some (lgPl g.cs (cdIx g.cs e.cd)) := by
        have := cdIx_self g.cs e.cd
        unfold cdIx at this ⊢
        rw [← h]; exact this
      rw [← h1]
      unfold cdVal
      rw [h2]
      rfl
    · rw [if_neg h, if_neg (fun q => h q.1)]
/-- No two cards of one name. -/
def CdU (cs : List RCd) : Prop := ∀ k, k < cs.length → cdIx cs (cs.getD k zCd).nm = some k
theorem cdU_cs {cs : List RCd} (h : CdU cs) (nm : ByteArray) : CdU (lgCs cs nm (cdIx cs nm)) := by
  cases hx : cdIx cs nm with
  | some j => exact h
  | none =>
    intro k hk
    show cdIx (cs ++ [(⟨nm, 0, 0, 0⟩ : RCd)]) ((cs ++ [(⟨nm, 0, 0, 0⟩ : RCd)]).getD k zCd).nm = some k
    have hk : k < (cs ++ [(⟨nm, 0, 0, 0⟩ : RCd)]).length := hk
    by_cases e : k = cs.length
    · subst e
      rw [getD_app_r, cdIx_app, hx]
      exact if_pos (by simp)
    · have hk2 : k < cs.length := by simp at hk; omega
      rw [getD_app_l _ _ hk2, cdIx_app, h k hk2]
theorem cdU_set {cs : List RCd} (h : CdU cs) (p : Nat) (c : RCd) (hn : c.nm = (cs.getD p zCd).nm) : CdU (cs.set p c) := by
  intro k hk
  rw [List.length_set] at hk
  rw [cdIx_set cs p c _ hn]
  have : ((cs.set p c).getD k zCd).nm = (cs.getD k zCd).nm := by
    by_cases e : p = k
    · subst e; rw [show (cs.set p c).getD p zCd = c by simp [List.getD_eq_getElem?_getD, hk]]; exact hn
    · simp only [List.getD_eq_getElem?_getD]; rw [List.getElem?_set, if_neg e]
  rw [this]
  exact h k hk
theorem cdU_at (rs : List REv) : ∀ i, CdU (lgAt rs i).cs
  | 0 => fun k hk => by simp [lgAt, noLg] at hk
  | i + 1 => by
    have ih := cdU_at rs i
    have hs : lgAt rs (i + 1) = lgRef i (lgTake (lgAt rs i) (rs.getD i zEv).kd (rs.getD i zEv).cd (rs.getD i zEv).am) := rfl
    rw [hs]
    generalize lgAt rs i = g at *
    generalize rs.getD i zEv = e
    have h1 := cdU_cs ih e.cd
    have ht : CdU (lgTake g e.kd e.cd e.am).2.cs := by
      unfold lgTake
      split
      · split <;> exact ih
      · split
        · exact cdU_set h1 _ (ldC ((lgCs g.cs e.cd (cdIx g.cs e.cd)).getD (lgPl g.cs (cdIx g.cs e.cd)) zCd) e.am) rfl
        · split
          · exact h1
          · exact cdU_set h1 _ (spC ((lgCs g.cs e.cd (cdIx g.cs e.cd)).getD (lgPl g.cs (cdIx g.cs e.cd)) zCd) e.am) rfl
    unfold lgRef
    split <;> exact ht
theorem cv_end {rs : List REv} {n k : Nat} (hk : k < (lgAt rs n).cs.length) : cvAt rs ((lgAt rs n).cs.getD k zCd).nm n = (((lgAt rs n).cs.getD k zCd).ld, ((lgAt rs n).cs.getD k zCd).sp) := by
  unfold cvAt cdVal
  rw [cdU_at rs n k hk]
end Go.Proofs.Ytabghjlmmpckdaa
