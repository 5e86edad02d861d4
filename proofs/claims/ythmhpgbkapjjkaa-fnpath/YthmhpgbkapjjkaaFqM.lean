/-
  Ways over picks as mathematics: the shortest over all orders; turned round a way is as long; a pick less, a pick more.
-/
import Derived.Test.YthmhpgbkapjjkaaBpM
namespace Go.Proofs.Ythmhpgbkapjjkaa
open Go.ChangeShapes Go.WideShapes Go.ChangeAt Go.RowKit Go.Joins Go.Deep
set_option linter.unusedVariables false

theorem farN_sym (p g : Int) (r s : RPt) : farN p g r s = farN p g s r := by
  unfold farN apN
  by_cases h : r.ai = s.ai
  · rw [if_pos h, if_pos h.symm]; omega
  · rw [if_neg h, if_neg (fun e => h e.symm)]
    rw [show max (r.ai - s.ai) (s.ai - r.ai) = max (s.ai - r.ai) (r.ai - s.ai) by omega]
    omega
/-- From a spot over some and home. -/
def tourN (p g : Int) : RPt → List RPt → Int
  | q, [] => farN p g q zPt
  | q, s :: S => farN p g q s + tourN p g s S
/-- Along a list. -/
def chN (p g : Int) : List RPt → Int
  | [] => 0
  | [_] => 0
  | x :: y :: l => farN p g x y + chN p g (y :: l)
theorem tour_ch (p g : Int) : ∀ (S : List RPt) (q : RPt), tourN p g q S = chN p g (q :: (S ++ [zPt]))
  | [], q => by show farN p g q zPt = farN p g q zPt + 0; omega
  | s :: S, q => by
    show farN p g q s + tourN p g s S = farN p g q s + chN p g (s :: (S ++ [zPt]))
    rw [tour_ch p g S s]
theorem ch_snoc (p g : Int) (x y : RPt) : ∀ l : List RPt, chN p g (l ++ [x] ++ [y]) = chN p g (l ++ [x]) + farN p g x y
  | [] => by show farN p g x y + 0 = 0 + farN p g x y; omega
  | [a] => by show farN p g a x + (farN p g x y + 0) = (farN p g a x + 0) + farN p g x y; omega
  | a :: b :: l => by
    have ih := ch_snoc p g x y (b :: l)
    show farN p g a b + chN p g (b :: l ++ [x] ++ [y]) = farN p g a b + chN p g (b :: l ++ [x]) + farN p g x y
    omega
theorem ch_reverse (p g : Int) : ∀ l : List RPt, chN p g l.reverse = chN p g l
  | [] => rfl
  | [x] => rfl
  | x :: y :: l => by
    have ih := ch_reverse p g (y :: l)
    rw [List.reverse_cons] at ih
    rw [List.reverse_cons, List.reverse_cons, ch_snoc, ih, farN_sym p g y x]
    show _ = farN p g x y + chN p g (y :: l)
    omega
theorem tour_reverse (p g : Int) (S : List RPt) : tourN p g zPt S.reverse = tourN p g zPt S := by
  rw [tour_ch, tour_ch, ← ch_reverse p g (zPt :: (S ++ [zPt]))]
  simp
section
variable {a p g : Int} (hh : hlB a p g = true)
include hh
theorem tour_ge : ∀ (S : List RPt) (q : RPt), spB a p q = true → (∀ s ∈ S, spB a p s = true) → farN p g q zPt ≤ tourN p g q S
  | [], q, _, _ => Int.le_refl _
  | s :: S, q, hq, hS => by
    have h1 := tour_ge S s (hS s (by simp)) (fun t ht => hS t (List.mem_cons_of_mem _ ht))
    have h2 := far_tri hh hq (hS s (by simp)) (sp_z hh)
    show _ ≤ farN p g q s + tourN p g s S
    omega
theorem tour_by : ∀ (S : List RPt) (q s : RPt), spB a p q = true → (∀ s ∈ S, spB a p s = true) → s ∈ S → farN p g q s + farN p g s zPt ≤ tourN p g q S
  | x :: S, q, s, hq, hS, hm => by
    have hx := hS x (by simp)
    have hS2 : ∀ t ∈ S, spB a p t = true := fun t ht => hS t (List.mem_cons_of_mem _ ht)
    show _ ≤ farN p g q x + tourN p g x S
    rcases List.mem_cons.1 hm with rfl | hm
    · have := tour_ge hh S s hx hS2
      omega
    · have h1 := tour_by S x s hx hS2 hm
      have h2 := far_tri hh hq hx (hS2 s hm)
      omega
theorem tour_less : ∀ (A B : List RPt) (q s : RPt), spB a p q = true → spB a p s = true → (∀ t ∈ A, spB a p t = true) → (∀ t ∈ B, spB a p t = true) → tourN p g q (A ++ B) ≤ tourN p g q (A ++ s :: B)
  | [], [], q, s, hq, hs, _, _ => far_tri hh hq hs (sp_z hh)
  | [], y :: B, q, s, hq, hs, _, hB => by
    have h := far_tri hh hq hs (hB y (by simp))
    show farN p g q y + tourN p g y B ≤ farN p g q s + (farN p g s y + tourN p g y B)
    omega
  | x :: A, B, q, s, hq, hs, hA, hB => by
    have h := tour_less A B x s (hA x (by simp)) hs (fun t ht => hA t (List.mem_cons_of_mem _ ht)) hB
    show farN p g q x + tourN p g x (A ++ B) ≤ farN p g q x + tourN p g x (A ++ s :: B)
    omega
theorem tour_more (S : List RPt) (s : RPt) (hs : spB a p s = true) (hS : ∀ t ∈ S, spB a p t = true) : tourN p g zPt (s :: S) ≤ tourN p g zPt S + 2 * farN p g zPt s := by
  have e := farN_sym p g s zPt
  have hz := sp_z hh
  cases S with
  | nil =>
    have := farN_bd hh hz hz
    show farN p g zPt s + farN p g s zPt ≤ farN p g zPt zPt + 2 * farN p g zPt s
    omega
  | cons y S =>
    have h := far_tri hh hs hz (hS y (by simp))
    show farN p g zPt s + (farN p g s y + tourN p g y S) ≤ farN p g zPt y + tourN p g y S + 2 * farN p g zPt s
    omega
end
def ptsN (rs : List RPt) (ns : List Nat) : List RPt := ns.map fun i => rs.getD i zPt
theorem wy_tour (p g : Int) (rs : List RPt) : ∀ (ns : List Nat) (q : RPt), wyN p g rs q (ns.map fun (i : Nat) => (i : Int)) = tourN p g q (ptsN rs ns)
  | [], q => rfl
  | n :: ns, q => by
    show farN p g q (rs.getD (n : Int).toNat zPt) + wyN p g rs (rs.getD (n : Int).toNat zPt) _ = farN p g q (rs.getD n zPt) + tourN p g (rs.getD n zPt) (ptsN rs ns)
    rw [Int.toNat_natCast, wy_tour]
theorem wy_bsO (p g : Int) (rs : List RPt) : ∀ (k : Nat) (R : List Nat) (q : RPt), R.length = k → wyN p g rs q (bsO p g rs k R q) = lsN p g rs k R q ∧ ∃ ns : List Nat, bsO p g rs k R q = (ns.map fun (i : Nat) => (i : Int)) ∧ ns.Perm R
  | 0, R, q, h => ⟨rfl, [], rfl, by rw [List.eq_nil_of_length_eq_zero h]⟩
  | k + 1, R, q, h => by
    have hR : R ≠ [] := fun e => by rw [e] at h; simp at h
    obtain ⟨h1, h2⟩ := fs_spec p g rs k hR q
    have hl : (R.erase (fsN p g rs k R q)).length = k := by rw [List.length_erase_of_mem h1, h]; rfl
    obtain ⟨i1, ns, i2, i3⟩ := wy_bsO p g rs k (R.erase (fsN p g rs k R q)) (rs.getD (fsN p g rs k R q) zPt) hl
    refine ⟨?_, fsN p g rs k R q :: ns, ?_, ?_⟩
    · rw [← h2]
      unfold viN
      rw [← i1]
      show farN p g q (rs.getD (fsN p g rs k R q : Int).toNat zPt) + wyN p g rs (rs.getD (fsN p g rs k R q : Int).toNat zPt) _ = _
      rw [Int.toNat_natCast]
    · show _ :: bsO p g rs k _ _ = _
      rw [i2]
      rfl
    · exact (List.Perm.cons _ i3).trans (List.perm_cons_erase h1).symm
theorem ls_le (p g : Int) (rs : List RPt) : ∀ (k : Nat) (R ns : List Nat) (q : RPt), R.length = k → ns.Perm R → lsN p g rs k R q ≤ tourN p g q (ptsN rs ns)
  | 0, R, ns, q, h, hp => by
    have : ns = [] := List.eq_nil_of_length_eq_zero (by rw [hp.length_eq, h])
    subst this
    exact Int.le_refl _
  | k + 1, R, [], q, h, hp => by have := hp.length_eq; simp at this; omega
  | k + 1, R, n :: ns, q, h, hp => by
    have hm : n ∈ R := hp.mem_iff.1 (by simp)
    have hp2 : ns.Perm (R.erase n) := List.Perm.cons_inv (hp.trans (List.perm_cons_erase hm))
    have ih := ls_le p g rs k (R.erase n) ns (rs.getD n zPt) (by rw [List.length_erase_of_mem hm, h]; rfl) hp2
    have h1 : lsN p g rs (k + 1) R q ≤ viN p g rs k R q n := mnL_le _ _ (List.mem_map.2 ⟨n, hm, rfl⟩)
    unfold viN at h1
    show _ ≤ farN p g q (rs.getD n zPt) + tourN p g (rs.getD n zPt) (ptsN rs ns)
    omega
theorem perm_map_ex {α β : Type} (f : α → β) {S T : List β} (h : S.Perm T) : ∀ l : List α, T = l.map f → ∃ l' : List α, l'.Perm l ∧ S = l'.map f := by
  induction h with
  | nil => intro l e; exact ⟨[], by cases l with | nil => exact .nil | cons _ _ => simp at e, rfl⟩
  | cons x h ih =>
    intro l e
    cases l with
    | nil => simp at e
    | cons y l =>
      simp only [List.map_cons, List.cons.injEq] at e
      obtain ⟨l', h1, h2⟩ := ih l e.2
      exact ⟨y :: l', h1.cons y, by rw [List.map_cons, e.1, h2]⟩
  | swap x y h =>
    intro l e
    cases l with
    | nil => simp at e
    | cons u l =>
      cases l with
      | nil => simp at e
      | cons v l =>
        simp only [List.map_cons, List.cons.injEq] at e
        exact ⟨v :: u :: l, List.Perm.swap u v l, by rw [List.map_cons, List.map_cons, e.1, e.2.1, e.2.2]⟩
  | trans h1 h2 ih1 ih2 =>
    intro l e
    obtain ⟨l1, k1, k2⟩ := ih2 l e
    obtain ⟨l2, k3, k4⟩ := ih1 l1 k2
    exact ⟨l2, k3.trans k1, k4⟩
theorem pts_range (rs : List RPt) : ptsN rs (List.range rs.length) = rs := by
  unfold ptsN
  refine List.ext_getElem (by simp) (fun i h1 h2 => ?_)
  simp [List.getD_eq_getElem?_getD, h2]
/-- The shortest of all. -/
def bestN (p g : Int) (rs : List RPt) : Int := lsN p g rs rs.length (List.range rs.length) zPt
theorem best_le (p g : Int) {rs S : List RPt} (h : S.Perm rs) : bestN p g rs ≤ tourN p g zPt S := by
  obtain ⟨ns, h1, h2⟩ := perm_map_ex (fun i => rs.getD i zPt) h (List.range rs.length) (pts_range rs).symm
  rw [h2]
  exact ls_le p g rs rs.length (List.range rs.length) ns zPt (by simp) h1
theorem best_at (p g : Int) (rs : List RPt) : ∃ S : List RPt, S.Perm rs ∧ tourN p g zPt S = bestN p g rs := by
  obtain ⟨h1, ns, h2, h3⟩ := wy_bsO p g rs rs.length (List.range rs.length) zPt (by simp)
  refine ⟨ptsN rs ns, ?_, ?_⟩
  · have := h3.map (fun i => rs.getD i zPt)
    exact this.trans (by rw [show (List.range rs.length).map (fun i => rs.getD i zPt) = rs from pts_range rs])
  · rw [← wy_tour, ← h2]; exact h1
/-- A pick less. -/
theorem best_less {a p g : Int} (hh : hlB a p g = true) {r : RPt} {rs : List RPt} (hs : ∀ s ∈ r :: rs, spB a p s = true) : bestN p g rs ≤ bestN p g (r :: rs) ∧ 2 * farN p g zPt r ≤ bestN p g (r :: rs) ∧ bestN p g (r :: rs) ≤ bestN p g rs + 2 * farN p g zPt r := by
  obtain ⟨S, h1, h2⟩ := best_at p g (r :: rs)
  obtain ⟨T, h3, h4⟩ := best_at p g rs
  have hS : ∀ s ∈ S, spB a p s = true := fun s hm => hs s (h1.mem_iff.1 hm)
  have hT : ∀ s ∈ T, spB a p s = true := fun s hm => hs s (List.mem_cons_of_mem _ (h3.mem_iff.1 hm))
  have hr := hs r (by simp)
  have hm : r ∈ S := h1.mem_iff.2 (by simp)
  obtain ⟨A, B, e⟩ := List.append_of_mem hm
  subst e
  have hp : (A ++ B).Perm rs := List.Perm.cons_inv (List.perm_middle.symm.trans h1)
  have k1 := tour_less hh A B zPt r (sp_z hh) hr (fun t ht => hS t (by simp [ht])) (fun t ht => hS t (by simp [ht]))
  have k2 := best_le p g hp
  have k3 := tour_by hh (A ++ r :: B) zPt r (sp_z hh) hS hm
  have k4 := farN_sym p g r zPt
  have k5 := tour_more hh T r hr hT
  have k6 := best_le p g (h3.cons r)
  omega
/-- An order that has each once, as places. -/
theorem onP_perm {L : List Int} {n : Nat} (h : OnP L n) : ∃ ns : List Nat, L = (ns.map fun (i : Nat) => (i : Int)) ∧ ns.Perm (List.range n) := by
  have hp : L.Perm (numZ n) := by
    have e := (on_iff L n).2 h
    unfold onB at e
    rw [beq_iff_eq] at e
    exact (List.mergeSort_perm L leI').symm.trans (by rw [e])
  obtain ⟨ns, h1, h2⟩ := perm_map_ex (fun (i : Nat) => (i : Int)) hp (List.range n) rfl
  exact ⟨ns, h2, h1⟩
theorem onP_of {ns : List Nat} {n : Nat} (h : ns.Perm (List.range n)) : OnP (ns.map fun (i : Nat) => (i : Int)) n := by
  refine ⟨by rw [List.length_map, h.length_eq, List.length_range], fun x hx => ?_, ?_⟩
  · obtain ⟨i, hi, rfl⟩ := List.mem_map.1 hx
    have := List.mem_range.1 (h.mem_iff.1 hi)
    omega
  · rw [List.Nodup, List.pairwise_map]
    exact (h.nodup_iff.2 List.nodup_range).imp (fun h e => h (by omega))
theorem onP_reverse {L : List Int} {n : Nat} (h : OnP L n) : OnP L.reverse n := ⟨by rw [List.length_reverse]; exact h.len, fun x hx => h.inn x (by simpa using hx), (List.reverse_perm L).nodup_iff.2 h.one⟩
/-- All that FnPath asks of orders. -/
theorem path_orders (p g : Int) {rs : List RPt} {L : List Int} (h : OnP L rs.length) : bestN p g rs ≤ wyN p g rs zPt L ∧ wyN p g rs zPt L.reverse = wyN p g rs zPt L := by
  obtain ⟨ns, rfl, hp⟩ := onP_perm h
  rw [← List.map_reverse, wy_tour, wy_tour]
  refine ⟨ls_le p g rs rs.length (List.range rs.length) ns zPt (by simp) hp, ?_⟩
  rw [show ptsN rs ns.reverse = (ptsN rs ns).reverse by unfold ptsN; rw [List.map_reverse]]
  exact tour_reverse p g _
theorem path_best (p g : Int) (rs : List RPt) : OnP (bsO p g rs rs.length (List.range rs.length) zPt) rs.length ∧ wyN p g rs zPt (bsO p g rs rs.length (List.range rs.length) zPt) = bestN p g rs := by
  obtain ⟨h1, ns, h2, h3⟩ := wy_bsO p g rs rs.length (List.range rs.length) zPt (by simp)
  exact ⟨by rw [h2]; exact onP_of h3, h1⟩
end Go.Proofs.Ythmhpgbkapjjkaa
