/-
  Texts of this claim laid together: BfB, BfC, BfD.
-/
import Derived.Test.YtkfmifbffgbiiaaM46
/-
  Right uses, in whatever order, save no more than the best; fewer deals save no more.
-/
namespace Go.Proofs.Ytkfmifbffgbiiaa
set_option linter.unusedVariables false

def nU (u : CUs) : Nat × List Nat := (u.dl.toNat, u.us.map Int.toNat)
theorem ok_facts {us : List RUn} {d : CDl} {ns : List Int} (h : okN us d ns ns.length = true) : ∀ j, j < ns.length → 0 ≤ ns.getD j 0 ∧ ns.getD j 0 < (us.length : Int) ∧ fitU us d (ns.getD j 0).toNat = true ∧ ∀ i, i < j → ns.getD i 0 < ns.getD j 0 := fun j => by
  induction j with
  | zero =>
    intro hj
    have h1 := (okN_at h 0 hj).2
    unfold oneN at h1
    rw [Bool.and_eq_true, Bool.and_eq_true, decide_eq_true_eq, decide_eq_true_eq] at h1
    have h0 : prevAt ns 0 = -1 := rfl
    rw [h0] at h1
    exact ⟨by omega, h1.1.2, h1.2, fun i hi => by omega⟩
  | succ j ih =>
    intro hj
    have h1 := (okN_at h (j + 1) hj).2
    unfold oneN at h1
    rw [Bool.and_eq_true, Bool.and_eq_true, decide_eq_true_eq, decide_eq_true_eq] at h1
    have h0 : prevAt ns (j + 1) = ns.getD j 0 := by unfold prevAt; rw [if_neg (by omega)]; rfl
    rw [h0] at h1
    obtain ⟨i1, i2, i3, i4⟩ := ih (by omega)
    refine ⟨by omega, h1.1.2, h1.2, fun i hi => ?_⟩
    by_cases e : i = j
    · rw [e]; exact h1.1.1
    · have := i4 i (by omega); omega
theorem mem_getD {ns : List Int} {x : Int} (h : x ∈ ns) : ∃ j, j < ns.length ∧ ns.getD j 0 = x := by
  obtain ⟨j, hj, e⟩ := List.getElem_of_mem h
  exact ⟨j, hj, by rw [← e]; simp [List.getD_eq_getElem?_getD, hj]⟩
theorem zN_back {ns : List Int} (h : ∀ x ∈ ns, 0 ≤ x) : zN (ns.map Int.toNat) = ns := by
  unfold zN
  rw [List.map_map]
  conv => rhs; rw [← List.map_id ns]
  exact List.map_congr_left (fun x hx => by have := h x hx; simp only [Function.comp, id]; omega)
theorem ris_sub : ∀ (m a : Nat) (s : List Nat), s.Pairwise (· < ·) → (∀ x ∈ s, a ≤ x ∧ x < a + m) → s.Sublist (List.range' a m)
  | m, a, [], _, _ => List.nil_sublist _
  | 0, a, x :: s, _, h => by have := h x List.mem_cons_self; omega
  | m + 1, a, x :: s, hp, h => by
    rw [List.range'_succ]
    obtain ⟨p1, p2⟩ := List.pairwise_cons.1 hp
    have hx := h x List.mem_cons_self
    by_cases e : x = a
    · subst e
      exact (ris_sub m (x + 1) s p2 (fun y hy => by have := p1 y hy; have := h y (List.mem_cons_of_mem _ hy); omega)).cons_cons x
    · exact (ris_sub m (a + 1) (x :: s) hp (fun y hy => by
        rcases List.mem_cons.1 hy with rfl | hy'
        · omega
        · have := p1 y hy'; have := h y hy; omega)).cons a
theorem Ris.range {n : Nat} {s : List Nat} (h : Ris n s) : s.Sublist (List.range n) := by
  rw [List.range_eq_range']
  exact ris_sub n 0 s h.1 (fun x hx => by have := h.2 x hx; omega)
theorem use_nat {us : List RUn} {ds : List CDl} {u : CUs} (h : useB us ds u = true) : UsV us ds (List.range us.length) 0 (nU u) ∧ 0 ≤ u.dl ∧ (∀ x ∈ u.us, 0 ≤ x) ∧ (told us ds u).sv = svU us (ds.getD (nU u).1 zDl) (nU u).2 := by
  unfold useB at h
  rw [Bool.and_eq_true, Bool.and_eq_true, decide_eq_true_eq, decide_eq_true_eq] at h
  obtain ⟨⟨⟨h0, h1⟩, h2⟩, h3⟩ := h
  have hf := ok_facts h3
  have hge : ∀ x ∈ u.us, 0 ≤ x := fun x hx => by
    obtain ⟨j, hj, rfl⟩ := mem_getD hx
    exact (hf j hj).1
  refine ⟨⟨?_, ?_, ?_, ?_, fun _ => Nat.zero_testBit _⟩, h0, hge, ?_⟩
  · unfold nU; dsimp only; omega
  · unfold nU; dsimp only; rw [List.length_map]; exact h2
  · intro x hx
    obtain ⟨y, hy, rfl⟩ := List.mem_map.1 hx
    obtain ⟨j, hj, rfl⟩ := mem_getD hy
    exact (hf j hj).2.2.1
  · refine Ris.range ⟨?_, ?_⟩
    · unfold nU
      dsimp only
      refine List.pairwise_iff_getElem.2 (fun i j hi hj hij => ?_)
      rw [List.length_map] at hi hj
      rw [List.getElem_map, List.getElem_map]
      have a1 := (hf j hj).2.2.2 i hij
      have a2 := (hf i hi).1
      rw [show u.us.getD i 0 = u.us[i] by simp [List.getD_eq_getElem?_getD, hi]] at a1 a2
      rw [show u.us.getD j 0 = u.us[j] by simp [List.getD_eq_getElem?_getD, hj]] at a1
      omega
    · intro x hx
      obtain ⟨y, hy, rfl⟩ := List.mem_map.1 hx
      obtain ⟨j, hj, rfl⟩ := mem_getD hy
      have := (hf j hj).1
      have := (hf j hj).2.1
      omega
  · unfold told svU nU
    dsimp only
    rw [zN_back hge]; rfl
theorem fit_stepAt {us : List RUn} {ds : List CDl} {cs : List CUs} : ∀ {n : Nat}, fitN us ds cs n = true → ∀ k, k < n → stepB us ds cs k = true := fun {n} h k hk => by
  induction n with
  | zero => omega
  | succ n ih =>
    have h' : (fitN us ds cs n && stepB us ds cs n) = true := h
    rw [Bool.and_eq_true] at h'
    by_cases e : k = n
    · rw [e]; exact h'.2
    · exact ih h'.1 (by omega)
theorem fit_any {us : List RUn} {ds : List CDl} {cs : List CUs} (h : fitB us ds cs = true) : AnyV us ds (List.range us.length) 0 (cs.map nU) ∧ savS us ds cs = valU us ds (cs.map nU) := by
  have hst : ∀ k (hk : k < cs.length), useB us ds cs[k] = true ∧ ((dlAt ds cs[k].dl).on && spB cs k cs[k].dl.toNat) = false ∧ ∀ x ∈ cs[k].us, tkB cs k x.toNat = false := fun k hk => by
    have := fit_stepAt h k hk
    unfold stepB at this
    rw [show cs.getD k zUs = cs[k] by simp [List.getD_eq_getElem?_getD, hk], Bool.and_eq_true, Bool.and_eq_true, Bool.not_eq_true', List.all_eq_true] at this
    exact ⟨this.1, this.2.1, fun x hx => by simpa using this.2.2 x hx⟩
  have hus : ∀ u ∈ cs, useB us ds u = true := fun u hu => by
    obtain ⟨k, hk, rfl⟩ := List.getElem_of_mem hu
    exact (hst k hk).1
  refine ⟨⟨fun v hv => ?_, List.pairwise_map.2 (List.pairwise_iff_getElem.2 (fun i k hi hk hik => ?_))⟩, ?_⟩
  · obtain ⟨u, hu, rfl⟩ := List.mem_map.1 hv
    exact (use_nat (hus u hu)).1
  · obtain ⟨k1, k2, k3⟩ := hst k hk
    obtain ⟨_, j1, j2, _⟩ := use_nat (hst i hi).1
    obtain ⟨_, l1, l2, _⟩ := use_nat k1
    have hm : cs[i] ∈ cs.take k := by
      rw [show cs[i] = (cs.take k)[i]'(by rw [List.length_take]; omega) by rw [List.getElem_take]]; exact List.getElem_mem _
    refine ⟨fun x hx hxi => ?_, fun ho e => ?_⟩
    · obtain ⟨y, hy, rfl⟩ := List.mem_map.1 hx
      obtain ⟨z, hz, hzy⟩ := List.mem_map.1 hxi
      have := k3 y hy
      unfold tkB at this
      rw [List.any_eq_false] at this
      refine this _ hm (List.any_eq_true.2 ⟨z, hz, ?_⟩)
      have := j2 z hz
      have := l2 y hy
      simp only [beq_iff_eq]
      omega
    · unfold nU at ho e
      dsimp only at ho e
      have hon : (dlAt ds cs[k].dl).on = true := by unfold dlAt; rw [← e]; exact ho
      rw [hon, Bool.true_and] at k2
      unfold spB at k2
      rw [List.any_eq_false] at k2
      refine k2 _ hm ?_
      simp only [beq_iff_eq]
      omega
  · unfold savS valU
    rw [List.map_map]
    exact congrArg List.sum (List.map_congr_left (fun u hu => (use_nat (hus u hu)).2.2.2))
theorem savS_cu (us : List RUn) (ds : List CDl) (U : List (Nat × List Nat)) : savS us ds (U.map cuOf) = valU us ds U := by
  unfold savS valU
  rw [List.map_map]
  exact congrArg List.sum (List.map_congr_left (fun u hu => by
    simp only [Function.comp]
    unfold told cuOf svU dlAt
    dsimp only
    rw [Int.toNat_natCast]))
theorem bs_sv {us : List RUn} {ds : List CDl} (hf : faultOf us ds = 0) : savS us ds (bsU us ds) = (sr us ds (List.range us.length) 0).sv := by
  obtain ⟨h1, h2⟩ := fault_both hf
  unfold bsU
  rw [if_pos hf, savS_cu]
  exact sr_val h2 _ _ 0 (Nat.le_refl _) (ris_range us.length)
/-- No right uses save more than the best. -/
theorem bs_most {us : List RUn} {ds : List CDl} {cs : List CUs} (hf : faultOf us ds = 0) (h : fitB us ds cs = true) : savS us ds cs ≤ savS us ds (bsU us ds) := by
  obtain ⟨h1, h2⟩ := fault_both hf
  obtain ⟨a1, a2⟩ := fit_any h
  rw [bs_sv hf, a2]
  exact sr_opt h2 _ _ 0 _ (Nat.le_refl _) (ris_range us.length) a1
/-- Each use of the best saves something. -/
theorem bs_pos {us : List RUn} {ds : List CDl} (hf : faultOf us ds = 0) : ∀ r ∈ bsU us ds, 1 ≤ (told us ds r).sv := fun r hr => by
  obtain ⟨h1, h2⟩ := fault_both hf
  have hu := (use_nat (us := us) (ds := ds) (u := r) (by
    have := bsU_fit hf
    obtain ⟨k, hk, rfl⟩ := List.getElem_of_mem hr
    have hs := fit_stepAt this k hk
    unfold stepB at hs
    rw [show (bsU us ds).getD k zUs = (bsU us ds)[k] by simp [List.getD_eq_getElem?_getD, hk], Bool.and_eq_true] at hs
    exact hs.1)).2.2.2
  unfold bsU at hr
  rw [if_pos hf] at hr
  obtain ⟨u, hu2, rfl⟩ := List.mem_map.1 hr
  have := sr_pos h2 _ _ 0 (Nat.le_refl _) (ris_range us.length) u hu2
  unfold told cuOf dlAt
  dsimp only
  rw [Int.toNat_natCast]
  exact this
/-- Fewer deals save no more. -/
theorem bs_less {us : List RUn} {ds : List CDl} {m : Nat} (hf : faultOf us ds = 0) (hg : faultOf us (ds.take m) = 0) : savS us (ds.take m) (bsU us (ds.take m)) ≤ savS us ds (bsU us ds) := by
  obtain ⟨h1, h2⟩ := fault_both hf
  obtain ⟨_, g2⟩ := fault_both hg
  obtain ⟨a1, a2⟩ := fit_any (bsU_fit hg)
  have hget : ∀ k, k < (ds.take m).length → (ds.take m).getD k zDl = ds.getD k zDl := fun k hk => by
    rw [List.length_take] at hk
    simp only [List.getD_eq_getElem?_getD]
    rw [List.getElem?_take, if_pos (by omega)]
  have hlt : (ds.take m).length ≤ ds.length := by rw [List.length_take]; omega
  rw [bs_sv hf, a2]
  have e : valU us (ds.take m) ((bsU us (ds.take m)).map nU) = valU us ds ((bsU us (ds.take m)).map nU) := by
    unfold valU
    exact congrArg List.sum (List.map_congr_left (fun u hu => by rw [hget _ (a1.1 u hu).1]))
  rw [e]
  refine sr_opt h2 _ _ 0 _ (Nat.le_refl _) (ris_range us.length) ⟨fun u hu => ?_, List.Pairwise.imp_of_mem (fun hu hv h => ?_) a1.2⟩
  · obtain ⟨b1, b2, b3, b4, b5⟩ := a1.1 u hu
    rw [hget _ b1] at b2 b3 b5
    exact ⟨Nat.lt_of_lt_of_le b1 hlt, b2, b3, b4, b5⟩
  · refine ⟨h.1, fun ho => h.2 (by rw [hget _ (a1.1 _ hu).1]; exact ho)⟩
end Go.Proofs.Ytkfmifbffgbiiaa

/-
  Right deals stay right where the last ones are left out; what Priced answers for uses that Best has told.
-/
namespace Go.Proofs.Ytkfmifbffgbiiaa
set_option linter.unusedVariables false

theorem diffN_take (ss : List ByteArray) (m : Nat) : ∀ k, k ≤ m → diffN (ss.take m) k = diffN ss k
  | 0, _ => rfl
  | k + 1, h => by
    unfold diffN
    rw [diffN_take ss m k (by omega), show (ss.take m).getD k ByteArray.empty = ss.getD k ByteArray.empty by simp only [List.getD_eq_getElem?_getD]; rw [List.getElem?_take, if_pos (by omega)], List.take_take, show min k m = k by omega]
theorem diffB_take {ss : List ByteArray} (m : Nat) (h : diffB ss = true) : diffB (ss.take m) = true := by
  unfold diffB at h ⊢
  rw [List.length_take, diffN_take ss m _ (by omega)]
  cases e : diffN ss (min m ss.length)
  · rw [diffN_le ss _ ss.length (by omega) e] at h; cases h
  · rfl
theorem dlAll_take {ds : List CDl} (m : Nat) (h : dlAll ds = true) : dlAll (ds.take m) = true := by
  unfold dlAll at h ⊢
  split at h
  · cases h
  · rename_i h6
    rw [if_neg (by rw [List.length_take]; omega)]
    rw [Bool.and_eq_true] at h ⊢
    refine ⟨?_, List.all_eq_true.2 (fun d hd => List.all_eq_true.1 h.2 d (List.mem_of_mem_take hd))⟩
    rw [List.map_take]
    exact diffB_take m h.1
theorem fault_take {us : List RUn} {ds : List CDl} (m : Nat) (h : faultOf us ds = 0) : faultOf us (ds.take m) = 0 := by
  obtain ⟨h1, h2⟩ := fault_both h
  have hu := (unAll_yes h1).1
  have hd := (dlAll_yes h2).1
  unfold faultOf
  rw [if_neg (by rw [List.length_take]; omega), h1, dlAll_take m h2]; rfl
/-- What was told is told again. -/
theorem told_told (us : List RUn) (ds : List CDl) (u : CUs) : told us ds (told us ds u) = told us ds u := rfl
theorem useB_told (us : List RUn) (ds : List CDl) (u : CUs) : useB us ds (told us ds u) = useB us ds u := rfl
theorem tkB_told (us : List RUn) (ds : List CDl) (cs : List CUs) (k n : Nat) : tkB (cs.map (told us ds)) k n = tkB cs k n := by
  unfold tkB
  rw [← List.map_take, List.any_map]; rfl
theorem spB_told (us : List RUn) (ds : List CDl) (cs : List CUs) (k n : Nat) : spB (cs.map (told us ds)) k n = spB cs k n := by
  unfold spB
  rw [← List.map_take, List.any_map]; rfl
theorem fitN_told (us : List RUn) (ds : List CDl) (cs : List CUs) : ∀ k, k ≤ cs.length → fitN us ds (cs.map (told us ds)) k = fitN us ds cs k
  | 0, _ => rfl
  | k + 1, h => by
    have e : (cs.map (told us ds)).getD k zUs = told us ds (cs.getD k zUs) := by simp [List.getD_eq_getElem?_getD, (by omega : k < cs.length)]
    have hs : stepB us ds (cs.map (told us ds)) k = stepB us ds cs k := by
      unfold stepB
      rw [e, useB_told, spB_told]
      have : (told us ds (cs.getD k zUs)).us = (cs.getD k zUs).us := rfl
      rw [this]
      congr 2
      exact List.all_congr rfl (fun x => by rw [tkB_told])
    unfold fitN
    rw [fitN_told us ds cs k (by omega), hs]
theorem fitB_told (us : List RUn) (ds : List CDl) (cs : List CUs) : fitB us ds (cs.map (told us ds)) = fitB us ds cs := by
  unfold fitB
  rw [List.length_map]
  exact fitN_told us ds cs _ (Nat.le_refl _)
theorem savS_told (us : List RUn) (ds : List CDl) (cs : List CUs) : savS us ds (cs.map (told us ds)) = savS us ds cs := by
  unfold savS
  rw [List.map_map]; rfl
/-- What the best saves lies between nothing and all. -/
theorem bs_bound {us : List RUn} {ds : List CDl} (hf : faultOf us ds = 0) : 0 ≤ savS us ds (bsU us ds) := by
  obtain ⟨h1, h2⟩ := fault_both hf
  rw [bs_sv hf]
  exact (sr_bound h1 h2 _ _ 0 (Nat.le_refl _) (ris_range us.length)).1
end Go.Proofs.Ytkfmifbffgbiiaa

/-
  What is saved is never more than the units' prices.
-/
namespace Go.Proofs.Ytkfmifbffgbiiaa
set_option linter.unusedVariables false

theorem minN_first (ps : List Int) : ∀ k, minN ps k ≤ ps.getD 0 0
  | 0 => Int.le_refl _
  | k + 1 => by
    have := minN_first ps k
    unfold minN
    split <;> omega
theorem first_sum {ps : List Int} (h : ∀ p ∈ ps, 0 ≤ p ∧ p ≤ 100000000) : 0 ≤ ps.sum ∧ ps.getD 0 0 ≤ ps.sum := by
  have hb := (sum_bound ps 0 100000000 h).1
  refine ⟨by omega, ?_⟩
  match ps, h with
  | [], _ => simp
  | p :: t, h =>
    have ht := (sum_bound t 0 100000000 (fun q hq => h q (List.mem_cons_of_mem _ hq))).1
    simp only [List.sum_cons, List.getD_cons_zero]
    omega
theorem sv_sum {kd vl : Int} {ps : List Int} (hp : PsOK ps) (ht : TvOK kd vl) : svB kd vl ps ≤ ps.sum := by
  obtain ⟨h0, h1⟩ := first_sum hp.2
  have hm := minN_first ps ps.length
  obtain ⟨t0, t1, t2⟩ := ht
  unfold svB
  split
  · rename_i e
    have h100 := t2 e
    have hn : 0 ≤ ps.sum * vl := Int.mul_nonneg h0 t0
    rw [Int.tdiv_eq_ediv_of_nonneg hn]
    exact Int.ediv_le_of_le_mul (by omega) (Int.mul_le_mul_of_nonneg_left h100 h0)
  · split
    · split <;> omega
    · split
      · omega
      · split <;> omega
def prL (us : List RUn) (l : List Nat) : Int := (l.map fun x => (us.getD x zUn).pr).sum
theorem prL_cons (us : List RUn) (x : Nat) (l : List Nat) : prL us (x :: l) = (us.getD x zUn).pr + prL us l := by unfold prL; rw [List.map_cons, List.sum_cons]
theorem prL_zN (us : List RUn) (l : List Nat) : ((zN l).map (prAt us)).sum = prL us l := by
  unfold prL zN
  rw [List.map_map]
  exact congrArg List.sum (List.map_congr_left (fun x hx => by simp only [Function.comp]; unfold prAt; rw [Int.toNat_natCast]))
theorem prL_split (us : List RUn) {s l : List Nat} (h : s.Sublist l) (hn : l.Nodup) : prL us s + prL us (l.filter fun y => decide (y ∉ s)) = prL us l := by
  induction h with
  | slnil => rfl
  | @cons s l a h ih =>
    obtain ⟨n1, n2⟩ := List.nodup_cons.1 hn
    have ha : a ∉ s := fun e => n1 (h.subset e)
    rw [List.filter_cons, if_pos (by simpa using ha), prL_cons, prL_cons]
    have := ih n2
    omega
  | @cons_cons s l a h ih =>
    obtain ⟨n1, n2⟩ := List.nodup_cons.1 hn
    rw [List.filter_cons, if_neg (by simp), prL_cons, prL_cons]
    have e : (l.filter fun y => decide (y ∉ a :: s)) = l.filter fun y => decide (y ∉ s) := List.filter_congr (fun y hy => by
      have : y ≠ a := fun e => n1 (e ▸ hy)
      simp [this])
    rw [e]
    have := ih n2
    omega
theorem sr_prices {us : List RUn} {ds : List CDl} (h1 : unAll us = true) (h2 : dlAll ds = true) : ∀ (n : Nat) (left : List Nat) (sp : Nat), left.length ≤ n → Ris us.length left → (sr us ds left sp).sv ≤ prL us left
  | n, [], sp, _, _ => by rw [sr_nil]; exact Int.le_refl _
  | 0, x :: l, sp, h, _ => by simp at h
  | n + 1, x :: l, sp, hln, hr => by
    have hln' : l.length ≤ n := by simpa using hln
    have hx : 0 ≤ (us.getD x zUn).pr := by
      have hxl := hr.2 x List.mem_cons_self
      have := (unAll_yes h1).2 (us.getD x zUn) (by rw [show us.getD x zUn = us[x] by simp [List.getD_eq_getElem?_getD, hxl]]; exact List.getElem_mem _)
      omega
    obtain ⟨f1, f2, f3, f4⟩ := sr_first (us := us) (nd_ok h2) x l sp
    by_cases he : (sr us ds l sp).sv = (sr us ds (x :: l) sp).sv
    · have := sr_prices h1 h2 n l sp hln' hr.tail
      rw [prL_cons]
      omega
    · obtain ⟨c, hc, e⟩ := f4 he
      have hm := List.mem_of_find?_eq_some hc
      obtain ⟨k, hk, hm2⟩ := List.mem_flatMap.1 hm
      split at hm2
      · cases hm2
      obtain ⟨c', hc', rfl⟩ := List.mem_map.1 hm2
      have hk' := List.mem_range.1 hk
      obtain ⟨hr2, hl2⟩ := takes_left h2 hr hk' hc'
      have ih := sr_prices h1 h2 n c'.2 (spD (ds.getD k zDl) sp k) (by simp at hl2; omega) hr2
      have hg := good_of_use h1 h2 (takes_use h2 hr hk' hc')
      have hd : dlAt ds ((k : Nat) : Int) = ds.getD k zDl := by unfold dlAt; rw [Int.toNat_natCast]
      have h3 := hg.2.2.2
      have h4 := hg.2.2.1
      unfold cuOf at h3 h4
      dsimp only at h3 h4
      rw [hd] at h3
      have h5 := sv_sum h4 h3
      rw [prL_zN] at h5
      obtain ⟨x', l', s', e0, e1, hss, _, _, _, _, hfil⟩ := takes_mem (nd_ok h2 k hk') hc'
      have h6 := prL_split us (s := c'.1) (l := x :: l) (by rw [e1]; exact hss) hr.nodup
      rw [← hfil hr.nodup] at h6
      rw [e]
      show svU us (ds.getD k zDl) c'.1 + (sr us ds c'.2 (spD (ds.getD k zDl) sp k)).sv ≤ _
      unfold svU
      omega
theorem prL_all (us : List RUn) : prL us (List.range us.length) = sumU us := by
  unfold prL sumU
  refine congrArg List.sum (List.ext_getElem (by simp) (fun i h1 h2 => ?_))
  have : i < us.length := by simpa using h2
  simp [List.getD_eq_getElem?_getD, this]
theorem bs_total {us : List RUn} {ds : List CDl} (hf : faultOf us ds = 0) : savS us ds (bsU us ds) ≤ sumU us := by
  obtain ⟨h1, h2⟩ := fault_both hf
  rw [bs_sv hf, ← prL_all us]
  exact sr_prices h1 h2 _ _ 0 (Nat.le_refl _) (ris_range us.length)
end Go.Proofs.Ytkfmifbffgbiiaa
