/-
  Texts of this claim laid together: BsC, BsD.
-/
import Derived.Test.YtbijgoaanphojaaM27
/-
  What a mask leaves, and the most that can be saved, as the specification reckons it.
-/
namespace Go.Proofs.Ytbijgoaanphojaa
open Go.ChangeShapes Go.WideShapes Go.ChangeAt Go.RowKit Go.Deep
set_option linter.unusedVariables false

theorem freeL_or (n mask : Nat) (s : List Nat) : freeL n (mask ||| bitsN s) = (freeL n mask).filter fun x => decide (x ∉ s) := by
  refine sorted_ext _ _ (freeL_ris n _).1 (List.Pairwise.filter _ (freeL_ris n mask).1) (fun x => ?_)
  rw [mem_freeL, List.mem_filter, mem_freeL, Nat.testBit_or, bitsN_test]
  simp only [Bool.or_eq_false_iff, decide_eq_false_iff_not, decide_eq_true_eq]
  constructor
  · rintro ⟨h1, h2, h3⟩; exact ⟨⟨h1, h2⟩, h3⟩
  · rintro ⟨⟨h1, h2⟩, h3⟩; exact ⟨h1, h2, h3⟩
theorem bitsN_one (x : Nat) : bitsN [x] = 2 ^ x := by simp [bitsN]
theorem freeL_tail {n mask x : Nat} {l : List Nat} (h : freeL n mask = x :: l) : freeL n (mask ||| 2 ^ x) = l := by
  rw [← bitsN_one x, freeL_or, h]
  have hr := freeL_ris n mask
  rw [h] at hr
  have hx := (List.pairwise_cons.1 hr.1).1
  rw [List.filter_cons, if_neg (by simp)]
  refine List.filter_eq_self.2 (fun y hy => ?_)
  have := hx y hy
  simp
  omega
theorem freeL_nil {n mask : Nat} (h : ∀ y, y < n → mask.testBit y = true) : freeL n mask = [] := List.filter_eq_nil_iff.2 (fun x hx => by simp [h x (List.mem_range.1 hx)])
theorem freeL_first {n mask x : Nat} (hx : x < n) (h0 : mask.testBit x = false) (h : ∀ y, y < x → mask.testBit y = true) : freeL n mask = x :: (List.range n).filter fun i => decide (x < i) && ! mask.testBit i := by
  refine sorted_ext _ _ (freeL_ris n mask).1 (List.pairwise_cons.2 ⟨fun y hy => ?_, List.Pairwise.filter _ List.pairwise_lt_range⟩) (fun y => ?_)
  · have := (List.mem_filter.1 hy).2
    simp only [Bool.and_eq_true, decide_eq_true_eq] at this
    exact this.1
  · rw [mem_freeL, List.mem_cons, List.mem_filter, List.mem_range]
    simp only [Bool.and_eq_true, decide_eq_true_eq, Bool.not_eq_eq_eq_not, Bool.not_true]
    constructor
    · rintro ⟨h1, h2⟩
      by_cases e : y = x
      · exact .inl e
      · refine .inr ⟨h1, ?_, h2⟩
        by_cases e2 : y < x
        · rw [h y e2] at h2; cases h2
        · omega
    · rintro (rfl | ⟨h1, h2, h3⟩)
      · exact ⟨hx, h0⟩
      · exact ⟨h1, h3⟩
/-- What is left behind a taking is what its mask leaves. -/
theorem takes_free {us : List RUn} {ds : List CDl} (h2 : dlAll ds = true) {n mask k : Nat} (hk : k < ds.length) {c : List Nat × List Nat} (hc : c ∈ takes us (ds.getD k zDl) (freeL n mask)) : c.2 = freeL n (mask ||| bitsN c.1) := by
  obtain ⟨x, l, s, _, _, _, _, _, _, _, h⟩ := takes_mem (nd_ok h2 k hk) hc
  rw [freeL_or, h (freeL_ris n mask).nodup]
/-- Only coupons are spent. -/
def SpOK (ds : List CDl) (sp : Nat) : Prop := ∀ k, k < ds.length → sp.testBit k = true → (ds.getD k zDl).on = true
theorem SpOK.zero (ds : List CDl) : SpOK ds 0 := fun k _ h => by simp at h
theorem SpOK.off {ds : List CDl} {sp : Nat} (h : SpOK ds sp) {k : Nat} (hk : k < ds.length) : offD (ds.getD k zDl) sp k = sp.testBit k := by
  unfold offD
  cases e : sp.testBit k
  · simp
  · rw [h k hk e]; rfl
theorem SpOK.next {ds : List CDl} {sp : Nat} (h : SpOK ds sp) (k : Nat) : SpOK ds (spD (ds.getD k zDl) sp k) := fun j hj hb => by
  unfold spD at hb
  split at hb
  · rename_i hon
    rw [Nat.testBit_or, Nat.testBit_two_pow] at hb
    by_cases e : k = j
    · rw [← e]; exact hon
    · simp [e] at hb
      exact h j hj hb
  · exact h j hj hb
/-- The most that can be saved on what a mask leaves. -/
def mostM (us : List RUn) (ds : List CDl) (mask sp : Nat) : Int := (sr us ds (freeL us.length mask) sp).sv
def mostD (us : List RUn) (ds : List CDl) (mask sp : Nat) (left : List Nat) (m : Int) (k : Nat) : Int :=
  if sp.testBit k = true then m else ((takes us (ds.getD k zDl) left).map Prod.fst).foldl (fun m s => max m (svU us (ds.getD k zDl) s + mostM us ds (mask ||| bitsN s) (spD (ds.getD k zDl) sp k))) m
theorem most_nil {us : List RUn} {ds : List CDl} {mask sp : Nat} (h : freeL us.length mask = []) : mostM us ds mask sp = 0 := by
  unfold mostM
  rw [h, sr_nil]
theorem most_cons {us : List RUn} {ds : List CDl} (h2 : dlAll ds = true) {mask sp x : Nat} {l : List Nat} (hS : SpOK ds sp) (h : freeL us.length mask = x :: l) : mostM us ds mask sp = (List.range ds.length).foldl (mostD us ds mask sp (x :: l)) (mostM us ds (mask ||| 2 ^ x) sp) := by
  have e0 : mostM us ds (mask ||| 2 ^ x) sp = (sr us ds l sp).sv := by unfold mostM; rw [freeL_tail h]
  rw [e0]
  unfold mostM
  rw [h, sr_cands (nd_ok h2), most_max Wy.sv (cVal us ds sp) (cWy us ds sp) (fun c => rfl), cands, foldl_flat]
  refine foldl_same _ _ (fun b k hk => ?_)
  have hk' := List.mem_range.1 hk
  unfold mostD
  rw [hS.off hk']
  by_cases e : sp.testBit k = true
  · rw [if_pos e, if_pos e]; rfl
  · rw [if_neg e, if_neg e, foldl_mapL, foldl_mapL]
    refine foldl_same _ _ (fun b c hc => ?_)
    have hf : c.2 = freeL us.length (mask ||| bitsN c.1) := takes_free h2 hk' (by rw [h]; exact hc)
    unfold cVal mostM
    dsimp only
    rw [hf]
/-- The sets of a deal that begin with the first unit. -/
def setsK (us : List RUn) (ds : List CDl) (left : List Nat) (k : Nat) : List (List Nat) := (takes us (ds.getD k zDl) left).map Prod.fst
/-- Does a use save the most? -/
def hitK (us : List RUn) (ds : List CDl) (mask sp k : Nat) (s : List Nat) : Bool := decide (svU us (ds.getD k zDl) s + mostM us ds (mask ||| bitsN s) (spD (ds.getD k zDl) sp k) = mostM us ds mask sp)
/-- The first use of the first deal that saves the most, among the first j deals. -/
def useJ (us : List RUn) (ds : List CDl) (mask sp : Nat) (left : List Nat) (j : Nat) : Option (Nat × List Nat) := (List.range j).findSome? fun k => if sp.testBit k = true then none else ((setsK us ds left k).find? (hitK us ds mask sp k)).map fun s => (k, s)
theorem useJ_succ (us : List RUn) (ds : List CDl) (mask sp : Nat) (left : List Nat) (j : Nat) : useJ us ds mask sp left (j + 1) = (useJ us ds mask sp left j).or (if sp.testBit j = true then none else ((setsK us ds left j).find? (hitK us ds mask sp j)).map fun s => (j, s)) := by
  unfold useJ
  rw [List.range_succ, List.findSome?_append]
  cases h : (if sp.testBit j = true then none else ((setsK us ds left j).find? (hitK us ds mask sp j)).map fun s => (j, s)) <;> simp [List.findSome?, h]
theorem find_flat {α β : Type} (p : β → Bool) (g : α → List β) : ∀ (l : List α), (l.flatMap g).find? p = l.findSome? fun x => (g x).find? p
  | [] => rfl
  | x :: l => by
    rw [List.flatMap_cons, List.find?_append, find_flat p g l, List.findSome?_cons]
    cases (g x).find? p <;> rfl
theorem findSome_same {α β : Type} {f g : α → Option β} : ∀ (l : List α), (∀ x ∈ l, f x = g x) → l.findSome? f = l.findSome? g
  | [], _ => rfl
  | x :: l, h => by
    rw [List.findSome?_cons, List.findSome?_cons, h x List.mem_cons_self, findSome_same l (fun y hy => h y (List.mem_cons_of_mem _ hy))]
theorem find_same {α : Type} {p q : α → Bool} : ∀ (l : List α), (∀ x ∈ l, p x = q x) → l.find? p = l.find? q
  | [], _ => rfl
  | x :: l, h => by
    rw [List.find?_cons, List.find?_cons, h x List.mem_cons_self, find_same l (fun y hy => h y (List.mem_cons_of_mem _ hy))]
theorem findSome_map {α β γ : Type} (f : α → Option β) (g : β → γ) : ∀ (l : List α), (l.findSome? f).map g = l.findSome? fun x => (f x).map g
  | [] => rfl
  | x :: l => by
    rw [List.findSome?_cons, List.findSome?_cons]
    cases f x with
    | none => exact findSome_map f g l
    | some b => rfl
/-- The next use of the way that saves most. -/
theorem best_next {us : List RUn} {ds : List CDl} (h2 : dlAll ds = true) {mask sp x : Nat} {l : List Nat} (hS : SpOK ds sp) (h : freeL us.length mask = x :: l) (hne : mostM us ds (mask ||| 2 ^ x) sp ≠ mostM us ds mask sp) :
    ∃ k s, useJ us ds mask sp (x :: l) ds.length = some (k, s) ∧ k < ds.length ∧ s ∈ setsK us ds (x :: l) k ∧ (sr us ds (freeL us.length mask) sp).us = (k, s) :: (sr us ds (freeL us.length (mask ||| bitsN s)) (spD (ds.getD k zDl) sp k)).us := by
  have hne' : (sr us ds l sp).sv ≠ (sr us ds (x :: l) sp).sv := by
    unfold mostM at hne
    rwa [freeL_tail h, h] at hne
  obtain ⟨c, hc1, hc2⟩ := (sr_first (nd_ok h2) x l sp).2.2.2 hne'
  have hcm : c ∈ cands us ds (x :: l) sp := List.mem_of_find?_eq_some hc1
  obtain ⟨k, hk, hck⟩ := List.mem_flatMap.1 hcm
  have hk' := List.mem_range.1 hk
  have hck2 : ∃ t, t ∈ takes us (ds.getD k zDl) (x :: l) ∧ (k, t) = c := by
    split at hck
    · cases hck
    · exact List.mem_map.1 hck
  obtain ⟨t, ht, rfl⟩ := hck2
  have hf : t.2 = freeL us.length (mask ||| bitsN t.1) := takes_free h2 hk' (by rw [h]; exact ht)
  refine ⟨k, t.1, ?_, hk', List.mem_map.2 ⟨t, ht, rfl⟩, ?_⟩
  · have e := congrArg (Option.map fun (c : Nat × List Nat × List Nat) => (c.1, c.2.1)) hc1
    rw [cands, find_flat, findSome_map] at e
    rw [Option.map_some] at e
    rw [← e]
    unfold useJ
    refine findSome_same _ (fun j hj => ?_)
    have hj' := List.mem_range.1 hj
    rw [hS.off hj']
    by_cases e2 : sp.testBit j = true
    · rw [if_pos e2, if_pos e2]; rfl
    · rw [if_neg e2, if_neg e2, List.find?_map, setsK, List.find?_map, Option.map_map, Option.map_map]
      have es : (takes us (ds.getD j zDl) (x :: l)).find? ((hitK us ds mask sp j) ∘ Prod.fst) = (takes us (ds.getD j zDl) (x :: l)).find? ((fun c => decide (cVal us ds sp c = (sr us ds (x :: l) sp).sv)) ∘ fun c => (j, c)) := find_same _ (fun q hq => by
        have hq2 : q.2 = freeL us.length (mask ||| bitsN q.1) := takes_free h2 hj' (by rw [h]; exact hq)
        show hitK us ds mask sp j q.1 = decide (cVal us ds sp (j, q) = (sr us ds (x :: l) sp).sv)
        unfold hitK cVal mostM
        rw [h, ← hq2])
      rw [es]
      rfl
  · rw [h, hc2]
    unfold cWy
    dsimp only
    rw [hf]
theorem best_skip {us : List RUn} {ds : List CDl} (h2 : dlAll ds = true) {mask sp x : Nat} {l : List Nat} (h : freeL us.length mask = x :: l) (he : mostM us ds (mask ||| 2 ^ x) sp = mostM us ds mask sp) : sr us ds (freeL us.length mask) sp = sr us ds (freeL us.length (mask ||| 2 ^ x)) sp := by
  unfold mostM at he
  rw [freeL_tail h, h] at he ⊢
  exact (sr_first (nd_ok h2) x l sp).2.2.1 he
end Go.Proofs.Ytbijgoaanphojaa

/-
  Bits as the specification's most, uses and Best read them.
-/
namespace Go.Proofs.Ytbijgoaanphojaa
open Go.ChangeShapes Go.WideShapes Go.ChangeAt Go.RowKit Go.Deep
set_option linter.unusedVariables false

/-- mask>>k&1. -/
theorem shr_bit (mask k : Nat) (hm : mask < 65536) : bits .and .i64 ((mask : Int) / 2 ^ k) 1 = ((if mask.testBit k = true then 1 else 0 : Nat) : Int) := by
  have e : ((mask : Int) / 2 ^ k) = ((mask / 2 ^ k : Nat) : Int) := by simp
  have hl : mask / 2 ^ k < 65536 := Nat.lt_of_le_of_lt (Nat.div_le_self _ _) hm
  have h := andI (mask / 2 ^ k) 1 hl (by omega)
  have e1 : mask / 2 ^ k &&& 1 = if mask.testBit k = true then 1 else 0 := by
    unfold Nat.testBit
    rw [Nat.shiftRight_eq_div_pow, Nat.and_one_is_mod, Nat.and_comm, Nat.and_one_is_mod]
    rcases Nat.mod_two_eq_zero_or_one (mask / 2 ^ k) with h | h <;> simp [h]
  rw [e, ← e1, ← h]
  rfl
/-- once<<8|mask. -/
theorem at_bits (mask sp : Nat) (hm : mask < 256) (hs : sp < 64) : bits .or .i64 ((sp : Int) * 256) (mask : Int) = ((sp * 256 + mask : Nat) : Int) := by
  have h := orI (sp * 256) mask (by omega) (by omega)
  have e1 : sp * 256 ||| mask = sp * 256 + mask := by
    have := Nat.two_pow_add_eq_or_of_lt (i := 8) (b := mask) (by omega) sp
    rw [Nat.mul_comm sp 256]
    exact this.symm
  rw [← e1, ← h]
  simp
end Go.Proofs.Ytbijgoaanphojaa
