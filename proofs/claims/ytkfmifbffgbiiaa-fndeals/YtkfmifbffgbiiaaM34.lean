/-
  Texts of this claim laid together: BeN.
-/
import Derived.Test.YtkfmifbffgbiiaaM33
import Derived.Test.YtkfmifbffgbiiaaM28
/-
  What is found keeps to the rules of uses: each is one of its deal, no unit is taken twice, no coupon used twice; what it saves is bounded; nothing of the program is in it.
-/
namespace Go.Proofs.Ytkfmifbffgbiiaa
open Go.ChangeShapes Go.WideShapes Go.ChangeAt Go.RowKit Go.Deep
set_option linter.unusedVariables false

/-- A use as the program has it. -/
def cuOf (u : Nat × List Nat) : CUs := ⟨(u.1 : Int), 0, zN u.2⟩
theorem rise_get {l : List Nat} (h : l.Pairwise (· < ·)) : ∀ i, i + 1 < l.length → l.getD i 0 < l.getD (i + 1) 0 := fun i hi => by
  have := List.pairwise_iff_getElem.1 h i (i + 1) (by omega) hi (by omega)
  simpa [List.getD_eq_getElem?_getD, hi, (by omega : i < l.length)] using this
theorem ok_rise {us : List RUn} {d : CDl} {t : List Nat} (hr : Ris us.length t) (hf : ∀ x ∈ t, fitU us d x = true) : okN us d (zN t) (zN t).length = true := by
  have key : ∀ i, i ≤ t.length → okN us d (zN t) i = true := fun i => by
    induction i with
    | zero => intro _; rfl
    | succ i ih =>
      intro hi
      have hm : t.getD i 0 ∈ t := by
        rw [show t.getD i 0 = t[i] by simp [List.getD_eq_getElem?_getD, (by omega : i < t.length)]]; exact List.getElem_mem _
      unfold okN
      rw [ih (by omega), Bool.true_and]
      unfold oneN
      rw [zN_get, Int.toNat_natCast]
      have h1 := hr.2 _ hm
      have h2 : hasB d.arts (us.getD (t.getD i 0) zUn).art = true := hf _ hm
      rw [h2, Bool.and_true, Bool.and_eq_true, decide_eq_true_eq, decide_eq_true_eq]
      refine ⟨?_, by omega⟩
      unfold prevAt
      split
      · omega
      · rename_i h0
        rw [zN_get]
        have := rise_get hr.1 (i - 1) (by omega)
        rw [show i - 1 + 1 = i by omega] at this
        omega
  rw [zN_len]
  exact key _ (Nat.le_refl _)
theorem nd_ok {ds : List CDl} (h2 : dlAll ds = true) : NdOK ds := fun k hk => by
  obtain ⟨_, hdl⟩ := dlAll_yes h2
  have := hdl (ds.getD k zDl) (by rw [show ds.getD k zDl = ds[k] by simp [List.getD_eq_getElem?_getD, hk]]; exact List.getElem_mem _)
  omega
theorem takes_use {us : List RUn} {ds : List CDl} (h2 : dlAll ds = true) {left : List Nat} (hr : Ris us.length left) {k : Nat} (hk : k < ds.length) {c : List Nat × List Nat} (hc : c ∈ takes us (ds.getD k zDl) left) : useB us ds (cuOf (k, c.1)) = true := by
  obtain ⟨x, l, s, e, e1, hs, _, hl, _, hf, _⟩ := takes_mem (nd_ok h2 k hk) hc
  have hd : dlAt ds ((k : Nat) : Int) = ds.getD k zDl := by unfold dlAt; rw [Int.toNat_natCast]
  have hok := ok_rise (hr.sub (by rw [e1]; exact hs)) hf
  unfold useB cuOf
  dsimp only
  rw [hd, hok, zN_len, Bool.and_true, Bool.and_eq_true, decide_eq_true_eq, decide_eq_true_eq]
  exact ⟨by omega, hl⟩
theorem takes_sv {us : List RUn} {ds : List CDl} (h1 : unAll us = true) (h2 : dlAll ds = true) {left : List Nat} (hr : Ris us.length left) {k : Nat} (hk : k < ds.length) {c : List Nat × List Nat} (hc : c ∈ takes us (ds.getD k zDl) left) : 0 ≤ svU us (ds.getD k zDl) c.1 ∧ svU us (ds.getD k zDl) c.1 ≤ 400000000 := by
  have hg := good_of_use h1 h2 (takes_use h2 hr hk hc)
  have hd : dlAt ds ((k : Nat) : Int) = ds.getD k zDl := by unfold dlAt; rw [Int.toNat_natCast]
  have h3 := hg.2.2.2
  unfold cuOf at h3
  dsimp only at h3
  rw [hd] at h3
  exact sv_bound hg.2.2.1 h3
theorem takes_left {us : List RUn} {ds : List CDl} (h2 : dlAll ds = true) {left : List Nat} {n : Nat} (hr : Ris n left) {k : Nat} (hk : k < ds.length) {c : List Nat × List Nat} (hc : c ∈ takes us (ds.getD k zDl) left) : Ris n c.2 ∧ c.2.length < left.length := by
  obtain ⟨x, l, s, e, e1, hs, hl, _⟩ := takes_mem (nd_ok h2 k hk) hc
  subst e
  refine ⟨hr.tail.sub hl, ?_⟩
  have := hl.length_le
  simp; omega
theorem sr_bound {us : List RUn} {ds : List CDl} (h1 : unAll us = true) (h2 : dlAll ds = true) : ∀ (n : Nat) (left : List Nat) (sp : Nat), left.length ≤ n → Ris us.length left → 0 ≤ (sr us ds left sp).sv ∧ (sr us ds left sp).sv ≤ 400000000 * (left.length : Int)
  | n, [], sp, _, _ => by rw [sr_nil]; simp
  | 0, x :: l, sp, h, _ => by simp at h
  | n + 1, x :: l, sp, h, hr => by
    have hln : l.length ≤ n := by simpa using h
    rw [sr_cons (nd_ok h2)]
    have hb := sr_bound h1 h2 n l sp hln hr.tail
    refine foldl_keep (P := fun b : Wy => 0 ≤ b.sv ∧ b.sv ≤ 400000000 * ((x :: l).length : Int)) _ _ (by simp; omega) (fun b k hk hP => ?_)
    have hk' : k < ds.length := List.mem_range.1 hk
    unfold stD
    split
    · exact hP
    · refine foldl_keep (P := fun b : Wy => 0 ≤ b.sv ∧ b.sv ≤ 400000000 * ((x :: l).length : Int)) _ _ hP (fun b2 c hc hP2 => ?_)
      obtain ⟨hr2, hl2⟩ := takes_left h2 hr hk' hc
      have hl3 : c.2.length ≤ l.length := by simp at hl2; omega
      have hs := takes_sv h1 h2 hr hk' hc
      have hb2 := sr_bound h1 h2 n c.2 (spD (ds.getD k zDl) sp k) (by omega) hr2
      unfold stT
      split
      · dsimp only
        have : ((x :: l).length : Int) = (l.length : Int) + 1 := by simp
        omega
      · exact hP2
/-- Uses one behind the other, of what is left and with the coupons that are not spent. -/
def VU (us : List RUn) (ds : List CDl) : List Nat → Nat → List (Nat × List Nat) → Prop
  | _, _, [] => True
  | left, sp, (k, t) :: U => ∃ left' r, left'.Sublist left ∧ k < ds.length ∧ offD (ds.getD k zDl) sp k = false ∧ (t, r) ∈ takes us (ds.getD k zDl) left' ∧ VU us ds r (spD (ds.getD k zDl) sp k) U
theorem VU.mono {us : List RUn} {ds : List CDl} : ∀ {U : List (Nat × List Nat)} {l l' : List Nat} {sp : Nat}, VU us ds l sp U → l.Sublist l' → VU us ds l' sp U
  | [], _, _, _, _, _ => trivial
  | (k, t) :: U, l, l', sp, h, hs => by
    obtain ⟨left', r, h1, h2, h3, h4, h5⟩ := h
    exact ⟨left', r, h1.trans hs, h2, h3, h4, h5⟩
theorem sr_valid {us : List RUn} {ds : List CDl} (h2 : dlAll ds = true) : ∀ (n : Nat) (left : List Nat) (sp : Nat), left.length ≤ n → Ris us.length left → VU us ds left sp (sr us ds left sp).us
  | n, [], sp, _, _ => by rw [sr_nil]; trivial
  | 0, x :: l, sp, h, _ => by simp at h
  | n + 1, x :: l, sp, h, hr => by
    have hln : l.length ≤ n := by simpa using h
    rw [sr_cons (nd_ok h2)]
    refine foldl_keep (P := fun b : Wy => VU us ds (x :: l) sp b.us) _ _ ((sr_valid h2 n l sp hln hr.tail).mono (List.sublist_cons_self _ _)) (fun b k hk hP => ?_)
    have hk' : k < ds.length := List.mem_range.1 hk
    unfold stD
    split
    · exact hP
    · rename_i ho
      refine foldl_keep (P := fun b : Wy => VU us ds (x :: l) sp b.us) _ _ hP (fun b2 c hc hP2 => ?_)
      obtain ⟨hr2, hl2⟩ := takes_left h2 hr hk' hc
      unfold stT
      split
      · exact ⟨x :: l, c.2, List.Sublist.refl _, hk', by simpa using ho, hc, sr_valid h2 n c.2 _ (by simp at hl2; omega) hr2⟩
      · exact hP2
theorem VU.len {us : List RUn} {ds : List CDl} (h2 : dlAll ds = true) : ∀ {U : List (Nat × List Nat)} {l : List Nat} {sp : Nat}, VU us ds l sp U → U.length ≤ l.length
  | [], l, sp, h => Nat.zero_le _
  | (k, t) :: U, l, sp, h => by
    obtain ⟨left', r, hs, hk, ho, hc, hv⟩ := h
    obtain ⟨x, l0, s, e, e1, hss, hl0, hln, hln2, hf, hfil⟩ := takes_mem (nd_ok h2 k hk) hc
    dsimp only at e1 hln2
    have h3 := VU.len h2 hv
    have h4 := hs.length_le
    rw [e1] at hln2
    simp at hln2 ⊢
    omega
theorem sr_len {us : List RUn} {ds : List CDl} (h2 : dlAll ds = true) {left : List Nat} (sp : Nat) (hr : Ris us.length left) : (sr us ds left sp).us.length ≤ left.length := (sr_valid h2 left.length left sp (Nat.le_refl _) hr).len h2
theorem Ris.le {n : Nat} {l : List Nat} (h : Ris n l) : l.length ≤ n := by
  have := Ris.len (a := 0) (n := n) h.1 (fun x hx => ⟨Nat.zero_le _, h.2 x hx⟩)
  rw [Nat.zero_max] at this
  omega
theorem VU.facts {us : List RUn} {ds : List CDl} (h2 : dlAll ds = true) : ∀ {U : List (Nat × List Nat)} {l : List Nat} {sp : Nat}, Ris us.length l → VU us ds l sp U → (∀ u ∈ U, useB us ds (cuOf u) = true ∧ (∀ x ∈ u.2, x ∈ l) ∧ ((ds.getD u.1 zDl).on = true → sp.testBit u.1 = false)) ∧ U.Pairwise (fun u v => (∀ x ∈ v.2, x ∉ u.2) ∧ ((ds.getD v.1 zDl).on = true → u.1 ≠ v.1))
  | [], l, sp, hr, h => ⟨fun u hu => (by cases hu), List.Pairwise.nil⟩
  | (k, t) :: U, l, sp, hr, h => by
    obtain ⟨left', r, hs, hk, ho, hc, hv⟩ := h
    have hr' := hr.sub hs
    obtain ⟨x, l0, s, e, e1, hss, hl0, hln, hln2, hf, hfil⟩ := takes_mem (nd_ok h2 k hk) hc
    dsimp only at e1 hl0 hln hln2 hf hfil
    obtain ⟨hr2, _⟩ := takes_left h2 hr' hk hc
    obtain ⟨f1, f2⟩ := VU.facts h2 hr2 hv
    have htl : ∀ y ∈ t, y ∈ left' := fun y hy => hss.subset (by rw [e1] at hy; exact hy)
    have hrl : ∀ y ∈ r, y ∈ left' ∧ y ∉ t := fun y hy => by
      rw [hfil hr'.nodup] at hy
      have := List.mem_filter.1 hy
      exact ⟨this.1, by simpa using this.2⟩
    have hon : (ds.getD k zDl).on = true → sp.testBit k = false := fun h => by
      unfold offD at ho
      rw [h, Bool.true_and] at ho
      exact ho
    refine ⟨fun u hu => ?_, List.pairwise_cons.2 ⟨fun v hv => ?_, f2⟩⟩
    · rcases List.mem_cons.1 hu with e | e
      · rw [e]; exact ⟨takes_use h2 hr' hk hc, fun y hy => hs.subset (htl y hy), hon⟩
      · obtain ⟨g1, g2, g3⟩ := f1 u e
        refine ⟨g1, fun y hy => hs.subset (hrl y (g2 y hy)).1, fun h => ?_⟩
        have := g3 h
        unfold spD at this
        split at this
        · rw [Nat.testBit_or, Bool.or_eq_false_iff] at this; exact this.1
        · exact this
    · obtain ⟨g1, g2, g3⟩ := f1 v hv
      refine ⟨fun y hy => (hrl y (g2 y hy)).2, fun h e => ?_⟩
      have := g3 h
      dsimp only at e
      rw [← e] at this h
      unfold spD at this
      rw [if_pos h, Nat.testBit_or, Nat.testBit_two_pow_self] at this
      simp at this
theorem fit_valid {us : List RUn} {ds : List CDl} (h2 : dlAll ds = true) {U : List (Nat × List Nat)} {l : List Nat} {sp : Nat} (hr : Ris us.length l) (h : VU us ds l sp U) : fitB us ds (U.map cuOf) = true := by
  obtain ⟨f1, f2⟩ := h.facts h2 hr
  have key : ∀ k, k ≤ U.length → fitN us ds (U.map cuOf) k = true := fun k => by
    induction k with
    | zero => intro _; rfl
    | succ k ih =>
      intro hk
      unfold fitN
      rw [ih (by omega), Bool.true_and]
      have hkl : k < U.length := by omega
      have hm : U[k] ∈ U := List.getElem_mem _
      have e : (U.map cuOf).getD k zUs = cuOf U[k] := by simp [List.getD_eq_getElem?_getD, hkl]
      obtain ⟨g1, g2, g3⟩ := f1 _ hm
      have hear : ∀ u ∈ U.take k, (∀ x ∈ U[k].2, x ∉ u.2) ∧ ((ds.getD U[k].1 zDl).on = true → u.1 ≠ U[k].1) := fun u hu => by
        obtain ⟨i, hi, rfl⟩ := List.getElem_of_mem hu
        rw [List.length_take] at hi
        rw [List.getElem_take]
        exact List.pairwise_iff_getElem.1 f2 i k (by omega) hkl (by omega)
      unfold stepB
      rw [e, g1, Bool.true_and, Bool.and_eq_true]
      refine ⟨?_, ?_⟩
      · have hdl : (dlAt ds (cuOf U[k]).dl) = ds.getD U[k].1 zDl := by unfold dlAt cuOf; dsimp only; rw [Int.toNat_natCast]
        rw [hdl]
        cases hon : (ds.getD U[k].1 zDl).on with
        | false => rfl
        | true =>
          rw [Bool.true_and, Bool.not_eq_true']
          unfold spB
          rw [← List.map_take, List.any_map, List.any_eq_false]
          intro u hu
          have := (hear u hu).2 hon
          simp only [Function.comp, cuOf, Int.toNat_natCast, beq_iff_eq]
          intro e; omega
      · rw [List.all_eq_true]
        intro x hx
        unfold cuOf at hx
        dsimp only at hx
        obtain ⟨y, hy, rfl⟩ := List.mem_map.1 hx
        rw [Bool.not_eq_true', Int.toNat_natCast]
        unfold tkB
        rw [← List.map_take, List.any_map, List.any_eq_false]
        intro u hu
        have := (hear u hu).1 y hy
        simp only [Function.comp, cuOf]
        intro hh
        obtain ⟨z, hz, hzz⟩ := List.any_eq_true.1 hh
        obtain ⟨z', hz', rfl⟩ := List.mem_map.1 hz
        have : z' = y := by have := beq_iff_eq.1 hzz; omega
        subst this
        exact absurd hz' (by assumption)
  unfold fitB
  rw [List.length_map]
  exact key _ (Nat.le_refl _)
end Go.Proofs.Ytkfmifbffgbiiaa
