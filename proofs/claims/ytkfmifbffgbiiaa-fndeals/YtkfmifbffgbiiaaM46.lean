/-
  Texts of this claim laid together: BfA.
-/
import Derived.Test.YtkfmifbffgbiiaaM35
import Derived.Test.YtkfmifbffgbiiaaM45
/-
  The search's answer saves the most among all right uses, in whatever order; and each of its uses saves something.
-/
namespace Go.Proofs.Ytkfmifbffgbiiaa
set_option linter.unusedVariables false

/-- Two uses beside each other. -/
def UsR (ds : List CDl) (u v : Nat × List Nat) : Prop := (∀ x ∈ v.2, x ∉ u.2) ∧ ((ds.getD u.1 zDl).on = true → u.1 ≠ v.1)
theorem UsR.symm {ds : List CDl} {u v : Nat × List Nat} (h : UsR ds u v) : UsR ds v u := ⟨fun x hx hv => h.1 x hv hx, fun ho e => h.2 (by rw [← e]; exact ho) e.symm⟩
/-- One use of what is left. -/
def UsV (us : List RUn) (ds : List CDl) (left : List Nat) (sp : Nat) (u : Nat × List Nat) : Prop := u.1 < ds.length ∧ (u.2.length : Int) = (ds.getD u.1 zDl).nd ∧ (∀ x ∈ u.2, fitU us (ds.getD u.1 zDl) x = true) ∧ u.2.Sublist left ∧ ((ds.getD u.1 zDl).on = true → sp.testBit u.1 = false)
def AnyV (us : List RUn) (ds : List CDl) (left : List Nat) (sp : Nat) (U : List (Nat × List Nat)) : Prop := (∀ u ∈ U, UsV us ds left sp u) ∧ U.Pairwise (UsR ds)
def valU (us : List RUn) (ds : List CDl) (U : List (Nat × List Nat)) : Int := (U.map fun u => svU us (ds.getD u.1 zDl) u.2).sum
theorem valU_erase (us : List RUn) (ds : List CDl) (u : Nat × List Nat) : ∀ (U : List (Nat × List Nat)), u ∈ U → valU us ds U = svU us (ds.getD u.1 zDl) u.2 + valU us ds (U.erase u)
  | [], h => by cases h
  | v :: U, h => by
    by_cases e : v = u
    · rw [e, List.erase_cons_head]; rfl
    · have hU : u ∈ U := by
        rcases List.mem_cons.1 h with h | h
        · exact absurd h.symm e
        · exact h
      rw [List.erase_cons_tail (by simpa using e)]
      have := valU_erase us ds u U hU
      unfold valU at this ⊢
      simp only [List.map_cons, List.sum_cons]
      omega
theorem setsR_all : ∀ (s l : List Nat), s.Sublist l → s ∈ setsR s.length l
  | [], l, _ => by rw [List.length_nil, setsR_zero]; exact List.mem_singleton.2 rfl
  | x :: s, [], h => by cases h
  | x :: s, y :: l, h => by
    rw [List.length_cons, setsR]
    rw [List.mem_append]
    cases h with
    | cons _ h => exact .inr (setsR_all (x :: s) l h)
    | cons_cons _ h => exact .inl (List.mem_map.2 ⟨s, setsR_all s l h, rfl⟩)
theorem sub_tail {x : Nat} {l s : List Nat} (h : s.Sublist (x :: l)) (hx : x ∉ s) : s.Sublist l := by
  cases h with
  | cons _ h => exact h
  | cons_cons _ h => exact absurd List.mem_cons_self hx
theorem sub_head {n x : Nat} {l s : List Nat} (hr : Ris n (x :: l)) (h : s.Sublist (x :: l)) (hx : x ∈ s) : ∃ t, s = x :: t ∧ t.Sublist l := by
  cases h with
  | cons _ h =>
    have := h.subset hx
    have := (List.pairwise_cons.1 hr.1).1 x this
    omega
  | cons_cons _ h => exact ⟨_, rfl, h⟩
theorem sub_filter {p : Nat → Bool} {s l : List Nat} (h : s.Sublist l) (hp : ∀ x ∈ s, p x = true) : s.Sublist (l.filter p) := by
  have := h.filter p
  rwa [List.filter_eq_self.2 hp] at this
theorem takes_of {us : List RUn} {ds : List CDl} (h2 : dlAll ds = true) {x k : Nat} {l t : List Nat} (hr : Ris us.length (x :: l)) (hk : k < ds.length) (hn : ((x :: t).length : Int) = (ds.getD k zDl).nd) (hf : ∀ y ∈ x :: t, fitU us (ds.getD k zDl) y = true) (hs : t.Sublist l) : ∃ c ∈ takes us (ds.getD k zDl) (x :: l), c.1 = x :: t ∧ c.2 = (x :: l).filter fun y => decide (y ∉ x :: t) := by
  have hm : (x :: t) ∈ (takes us (ds.getD k zDl) (x :: l)).map Prod.fst := by
    rw [takes_sets, if_pos (hf x List.mem_cons_self)]
    refine List.mem_map.2 ⟨t, ?_, rfl⟩
    have e : (ds.getD k zDl).nd.toNat - 1 = t.length := by rw [← hn]; simp
    rw [e]
    exact setsR_all t _ (sub_filter hs (fun y hy => hf y (List.mem_cons_of_mem _ hy)))
  obtain ⟨c, hc, e⟩ := List.mem_map.1 hm
  obtain ⟨x', l', s', _, _, _, _, _, _, _, hfil⟩ := takes_mem (nd_ok h2 k hk) hc
  exact ⟨c, hc, e, by rw [hfil hr.nodup, e]⟩
theorem spD_bit {d : CDl} {sp k j : Nat} (h : sp.testBit j = false) (hj : d.on = true → k ≠ j) : (spD d sp k).testBit j = false := by
  unfold spD
  split
  · rename_i ho
    rw [Nat.testBit_or, h, Nat.testBit_two_pow, decide_eq_false (hj ho)]; rfl
  · exact h
/-- No right uses save more than the search finds. -/
theorem sr_opt {us : List RUn} {ds : List CDl} (h2 : dlAll ds = true) : ∀ (n : Nat) (left : List Nat) (sp : Nat) (U : List (Nat × List Nat)), left.length ≤ n → Ris us.length left → AnyV us ds left sp U → valU us ds U ≤ (sr us ds left sp).sv
  | n, [], sp, U, _, _, h => by
    have : U = [] := List.eq_nil_iff_forall_not_mem.2 (fun u hu => by
      obtain ⟨a1, a2, a3, a4, _⟩ := h.1 u hu
      have h0 := nd_ok h2 u.1 a1
      rw [List.eq_nil_of_sublist_nil a4, List.length_nil] at a2
      omega)
    rw [this, sr_nil]
    exact Int.le_refl _
  | 0, x :: l, sp, U, h, _, _ => by simp at h
  | n + 1, x :: l, sp, U, hln, hr, h => by
    have hln' : l.length ≤ n := by simpa using hln
    by_cases hx : ∃ u ∈ U, x ∈ u.2
    · obtain ⟨u, hu, hxu⟩ := hx
      obtain ⟨a1, a2, a3, a4, a5⟩ := h.1 u hu
      obtain ⟨t, ht, hts⟩ := sub_head hr a4 hxu
      obtain ⟨c, hc, hc1, hc2⟩ := takes_of h2 hr a1 (by rw [← ht]; exact a2) (by rw [← ht]; exact a3) hts
      have hoff : offD (ds.getD u.1 zDl) sp u.1 = false := by
        unfold offD
        cases ho : (ds.getD u.1 zDl).on
        · rfl
        · rw [a5 ho]; rfl
      have hcand : (u.1, c) ∈ cands us ds (x :: l) sp := List.mem_flatMap.2 ⟨u.1, List.mem_range.2 a1, by rw [if_neg (by rw [hoff]; simp)]; exact List.mem_map.2 ⟨c, hc, rfl⟩⟩
      have hmax := (sr_first (us := us) (nd_ok h2) x l sp).2.1 _ hcand
      have hp : (u :: U.erase u).Pairwise (UsR ds) := ((List.perm_cons_erase hu).pairwise_iff (fun h => UsR.symm h)).1 h.2
      obtain ⟨hp1, hp2⟩ := List.pairwise_cons.1 hp
      obtain ⟨hr2, hl2⟩ := takes_left h2 hr a1 hc
      have ih := sr_opt h2 n c.2 (spD (ds.getD u.1 zDl) sp u.1) (U.erase u) (by simp at hl2; omega) hr2 ⟨fun v hv => by
        obtain ⟨b1, b2, b3, b4, b5⟩ := h.1 v (List.mem_of_mem_erase hv)
        refine ⟨b1, b2, b3, ?_, fun ho => spD_bit (b5 ho) (fun hou => (hp1 v hv).2 hou)⟩
        rw [hc2]
        exact sub_filter b4 (fun y hy => decide_eq_true (by rw [← ht]; exact (hp1 v hv).1 y hy)), hp2⟩
      rw [valU_erase us ds u U hu]
      unfold cVal at hmax
      dsimp only at hmax
      rw [hc1, ← ht] at hmax
      omega
    · have h0 := (sr_first (us := us) (nd_ok h2) x l sp).1
      have ih := sr_opt h2 n l sp U hln' hr.tail ⟨fun u hu => by
        obtain ⟨b1, b2, b3, b4, b5⟩ := h.1 u hu
        exact ⟨b1, b2, b3, sub_tail b4 (fun hxu => hx ⟨u, hu, hxu⟩), b5⟩, h.2⟩
      omega
theorem sr_val {us : List RUn} {ds : List CDl} (h2 : dlAll ds = true) : ∀ (n : Nat) (left : List Nat) (sp : Nat), left.length ≤ n → Ris us.length left → valU us ds (sr us ds left sp).us = (sr us ds left sp).sv
  | n, [], sp, _, _ => by rw [sr_nil]; rfl
  | 0, x :: l, sp, h, _ => by simp at h
  | n + 1, x :: l, sp, hln, hr => by
    have hln' : l.length ≤ n := by simpa using hln
    obtain ⟨f1, f2, f3, f4⟩ := sr_first (us := us) (nd_ok h2) x l sp
    by_cases he : (sr us ds l sp).sv = (sr us ds (x :: l) sp).sv
    · rw [f3 he]; exact sr_val h2 n l sp hln' hr.tail
    · obtain ⟨c, hc, e⟩ := f4 he
      have hm := List.mem_of_find?_eq_some hc
      obtain ⟨k, hk, hm2⟩ := List.mem_flatMap.1 hm
      split at hm2
      · cases hm2
      obtain ⟨c', hc', rfl⟩ := List.mem_map.1 hm2
      obtain ⟨hr2, hl2⟩ := takes_left h2 hr (List.mem_range.1 hk) hc'
      have ih := sr_val h2 n c'.2 (spD (ds.getD k zDl) sp k) (by simp at hl2; omega) hr2
      rw [e]
      unfold cWy cVal
      dsimp only
      unfold valU at ih ⊢
      simp only [List.map_cons, List.sum_cons]
      rw [ih]
theorem VU.any {us : List RUn} {ds : List CDl} (h2 : dlAll ds = true) : ∀ {U : List (Nat × List Nat)} {l : List Nat} {sp : Nat}, Ris us.length l → VU us ds l sp U → AnyV us ds l sp U
  | [], l, sp, hr, h => ⟨fun u hu => (by cases hu), List.Pairwise.nil⟩
  | (k, t) :: U, l, sp, hr, h => by
    have hf := VU.facts h2 hr h
    obtain ⟨left', r, hs, hk, ho, hc, hv⟩ := h
    obtain ⟨x, l0, s, e, e1, hss, hl0, hln, hln2, hfi, hfil⟩ := takes_mem (nd_ok h2 k hk) hc
    dsimp only at e1 hln2 hln hfi hl0
    have hr' := hr.sub hs
    have hsub : r.Sublist l := (hl0.trans (List.sublist_cons_self x l0)).trans (by rw [← e]; exact hs)
    obtain ⟨i1, i2⟩ := VU.any h2 (hr.sub hsub) hv
    refine ⟨fun u hu => ?_, List.pairwise_cons.2 ⟨fun v hv' => ?_, i2⟩⟩
    · rcases List.mem_cons.1 hu with rfl | hu
      · exact ⟨hk, hln, hfi, by dsimp only; rw [e1]; exact hss.trans hs, (hf.1 _ List.mem_cons_self).2.2⟩
      · obtain ⟨b1, b2, b3, b4, b5⟩ := i1 u hu
        exact ⟨b1, b2, b3, b4.trans hsub, (hf.1 u (List.mem_cons_of_mem _ hu)).2.2⟩
    · have := (List.pairwise_cons.1 hf.2).1 v hv'
      exact UsR.symm ⟨fun x hx hxv => this.1 x hxv hx, fun ho e => this.2 ho e.symm⟩
theorem AnyV.wide {us : List RUn} {ds : List CDl} {l l' : List Nat} {sp sp' : Nat} {U : List (Nat × List Nat)} (h : AnyV us ds l sp U) (hl : l.Sublist l') (hs : ∀ j, sp.testBit j = false → sp'.testBit j = false) : AnyV us ds l' sp' U := ⟨fun u hu => by
  obtain ⟨b1, b2, b3, b4, b5⟩ := h.1 u hu
  exact ⟨b1, b2, b3, b4.trans hl, fun ho => hs _ (b5 ho)⟩, h.2⟩
/-- Each use that the search finds saves something. -/
theorem sr_pos {us : List RUn} {ds : List CDl} (h2 : dlAll ds = true) : ∀ (n : Nat) (left : List Nat) (sp : Nat), left.length ≤ n → Ris us.length left → ∀ u ∈ (sr us ds left sp).us, 1 ≤ svU us (ds.getD u.1 zDl) u.2
  | n, [], sp, _, _ => by rw [sr_nil]; intro u hu; cases hu
  | 0, x :: l, sp, h, _ => by simp at h
  | n + 1, x :: l, sp, hln, hr => by
    have hln' : l.length ≤ n := by simpa using hln
    obtain ⟨f1, f2, f3, f4⟩ := sr_first (us := us) (nd_ok h2) x l sp
    by_cases he : (sr us ds l sp).sv = (sr us ds (x :: l) sp).sv
    · rw [f3 he]; exact sr_pos h2 n l sp hln' hr.tail
    · obtain ⟨c, hc, e⟩ := f4 he
      have hm := List.mem_of_find?_eq_some hc
      obtain ⟨k, hk, hm2⟩ := List.mem_flatMap.1 hm
      split at hm2
      · cases hm2
      obtain ⟨c', hc', rfl⟩ := List.mem_map.1 hm2
      obtain ⟨hr2, hl2⟩ := takes_left h2 hr (List.mem_range.1 hk) hc'
      have hln2 : c'.2.length ≤ n := by simp at hl2; omega
      obtain ⟨x', l', s', e0, _, _, hsub, _⟩ := takes_mem (nd_ok h2 k (List.mem_range.1 hk)) hc'
      have hsub' : c'.2.Sublist l := by rw [(List.cons.inj e0).2]; exact hsub
      have hv := sr_val (us := us) h2 n c'.2 (spD (ds.getD k zDl) sp k) hln2 hr2
      have hany := VU.any h2 hr2 (sr_valid (us := us) h2 n c'.2 (spD (ds.getD k zDl) sp k) hln2 hr2)
      have hopt := sr_opt (us := us) h2 n l sp _ hln' hr.tail (hany.wide hsub' (fun j hj => by
        unfold spD at hj
        split at hj
        · rw [Nat.testBit_or, Bool.or_eq_false_iff] at hj; exact hj.1
        · exact hj))
      rw [hv] at hopt
      have hval : (sr us ds (x :: l) sp).sv = svU us (ds.getD k zDl) c'.1 + (sr us ds c'.2 (spD (ds.getD k zDl) sp k)).sv := by rw [e]; rfl
      intro u hu
      rw [e] at hu
      unfold cWy at hu
      dsimp only at hu
      rcases List.mem_cons.1 hu with rfl | hu
      · dsimp only; omega
      · exact sr_pos h2 n c'.2 _ hln2 hr2 u hu
end Go.Proofs.Ytkfmifbffgbiiaa
