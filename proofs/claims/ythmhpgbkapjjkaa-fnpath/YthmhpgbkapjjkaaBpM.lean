/-
  The shortest way over what is left, and of several the least order, as mathematics: what a search that leaves ways which are no shorter finds; nothing of the program is in it.
-/
import Derived.Test.YthmhpgbkapjjkaaPlA
namespace Go.Proofs.Ythmhpgbkapjjkaa
open Go.ChangeShapes Go.WideShapes Go.ChangeAt Go.RowKit Go.Joins Go.Deep
set_option linter.unusedVariables false

theorem apN_tri (a b c : Int) : apN a c ≤ apN a b + apN b c := by unfold apN; omega
theorem mul_tri {g a b c : Int} (hg : 0 ≤ g) (h : a ≤ b + c) : g * a ≤ g * b + g * c := by
  rw [← Int.mul_add]
  exact Int.mul_le_mul_of_nonneg_left h hg
theorem far_tri {a p g : Int} {r s t : RPt} (hh : hlB a p g = true) (hr : spB a p r = true) (hs : spB a p s = true) (ht : spB a p t = true) : farN p g r t ≤ farN p g r s + farN p g s t := by
  obtain ⟨h1, h2, h3⟩ := hl_facts hh
  obtain ⟨r1, r2⟩ := sp_facts hr
  obtain ⟨s1, s2⟩ := sp_facts hs
  obtain ⟨t1, t2⟩ := sp_facts ht
  have e1 := mul_tri (g := g) (by omega) (apN_tri r.ai s.ai t.ai)
  have e2 : 0 ≤ g * apN r.ai s.ai := Int.mul_nonneg (by omega) (apN_bd _ _).1
  have e3 : 0 ≤ g * apN s.ai t.ai := Int.mul_nonneg (by omega) (apN_bd _ _).1
  unfold farN
  by_cases c1 : r.ai = s.ai
  · by_cases c2 : s.ai = t.ai
    · rw [if_pos (c1.trans c2), if_pos c1, if_pos c2]
      exact apN_tri _ _ _
    · rw [if_neg (by rw [c1]; exact c2), if_pos c1, if_neg c2, c1]
      unfold apN at *
      omega
  · by_cases c2 : s.ai = t.ai
    · rw [if_neg (by rw [← c2]; exact c1), if_neg c1, if_pos c2, c2]
      unfold apN at *
      omega
    · rw [if_neg c1, if_neg c2]
      by_cases c3 : r.ai = t.ai
      · rw [if_pos c3]
        unfold apN at *
        omega
      · rw [if_neg c3]
        generalize g * apN r.ai t.ai = x at *
        generalize g * apN r.ai s.ai = y at *
        generalize g * apN s.ai t.ai = z at *
        omega
def mnL : List Int → Int
  | [] => 0
  | x :: xs => xs.foldl min x
theorem mnL_snoc (l : List Int) (x : Int) : mnL (l ++ [x]) = if l = [] then x else min (mnL l) x := by
  cases l with
  | nil => rfl
  | cons y l => simp [mnL, List.foldl_append]
theorem mnL_le : ∀ (l : List Int) (x : Int), x ∈ l → mnL l ≤ x := by
  have h : ∀ (l : List Int) (y : Int), l.foldl min y ≤ y ∧ ∀ x ∈ l, l.foldl min y ≤ x := fun l => by
    induction l with
    | nil => intro y; exact ⟨Int.le_refl _, by simp⟩
    | cons z l ih =>
      intro y
      obtain ⟨i1, i2⟩ := ih (min y z)
      refine ⟨by rw [List.foldl_cons]; omega, fun x hx => ?_⟩
      rw [List.foldl_cons]
      rcases List.mem_cons.1 hx with rfl | hx
      · omega
      · exact i2 x hx
  intro l x hx
  cases l with
  | nil => simp at hx
  | cons y l =>
    rcases List.mem_cons.1 hx with rfl | hx
    · exact (h l x).1
    · exact (h l y).2 x hx
theorem mnL_mem : ∀ (l : List Int), l ≠ [] → mnL l ∈ l := by
  have h : ∀ (l : List Int) (y : Int), l.foldl min y = y ∨ l.foldl min y ∈ l := fun l => by
    induction l with
    | nil => intro y; exact .inl rfl
    | cons z l ih =>
      intro y
      rw [List.foldl_cons]
      rcases ih (min y z) with e | e
      · rw [e]
        rcases (by omega : min y z = y ∨ min y z = z) with q | q
        · exact .inl q
        · exact .inr (by rw [q]; simp)
      · exact .inr (List.mem_cons_of_mem _ e)
  intro l hl
  cases l with
  | nil => exact absurd rfl hl
  | cons y l =>
    rcases h l y with e | e
    · show l.foldl min y ∈ _; rw [e]; simp
    · exact List.mem_cons_of_mem _ e
/-- The shortest way home from q over the k places R. -/
def lsN (p g : Int) (rs : List RPt) : Nat → List Nat → RPt → Int
  | 0, _, q => farN p g q zPt
  | k + 1, R, q => mnL (R.map fun i => farN p g q (rs.getD i zPt) + lsN p g rs k (R.erase i) (rs.getD i zPt))
/-- By way of place i. -/
def viN (p g : Int) (rs : List RPt) (k : Nat) (R : List Nat) (q : RPt) (i : Nat) : Int := farN p g q (rs.getD i zPt) + lsN p g rs k (R.erase i) (rs.getD i zPt)
def fsN (p g : Int) (rs : List RPt) (k : Nat) (R : List Nat) (q : RPt) : Nat := (R.find? fun i => viN p g rs k R q i == lsN p g rs (k + 1) R q).getD 0
/-- The least of the shortest orders. -/
def bsO (p g : Int) (rs : List RPt) : Nat → List Nat → RPt → List Int
  | 0, _, _ => []
  | k + 1, R, q => (fsN p g rs k R q : Int) :: bsO p g rs k (R.erase (fsN p g rs k R q)) (rs.getD (fsN p g rs k R q) zPt)
theorem bsO_len (p g : Int) (rs : List RPt) : ∀ k R q, (bsO p g rs k R q).length = k
  | 0, _, _ => rfl
  | k + 1, R, q => by unfold bsO; rw [List.length_cons, bsO_len]
theorem ls_succ (p g : Int) (rs : List RPt) (k : Nat) (R : List Nat) (q : RPt) : lsN p g rs (k + 1) R q = mnL (R.map (viN p g rs k R q)) := rfl
theorem fs_spec (p g : Int) (rs : List RPt) (k : Nat) {R : List Nat} (hR : R ≠ []) (q : RPt) : fsN p g rs k R q ∈ R ∧ viN p g rs k R q (fsN p g rs k R q) = lsN p g rs (k + 1) R q := by
  have h := mnL_mem (R.map (viN p g rs k R q)) (by simpa using hR)
  rw [← ls_succ] at h
  obtain ⟨i, hi, he⟩ := List.mem_map.1 h
  unfold fsN
  cases hf : R.find? fun i => viN p g rs k R q i == lsN p g rs (k + 1) R q
  · have := List.find?_eq_none.1 hf i hi
    simp [he] at this
  · rename_i j
    have h1 := List.mem_of_find?_eq_some hf
    have h2 := List.find?_some hf
    exact ⟨h1, by simpa using h2⟩
theorem ls_bd {a p g : Int} {rs : List RPt} (hh : hlB a p g = true) (hs : spsB a p rs = true) : ∀ k (R : List Nat) (q : RPt), R.length = k → spB a p q = true → farN p g q zPt ≤ lsN p g rs k R q ∧ lsN p g rs k R q ≤ 2300 * ((k : Int) + 1)
  | 0, R, q, _, hq => by
    have := farN_bd hh hq (sp_z hh)
    exact ⟨Int.le_refl _, by show farN p g q zPt ≤ _; omega⟩
  | k + 1, R, q, hl, hq => by
    have hR : R ≠ [] := fun e => by rw [e] at hl; simp at hl
    obtain ⟨h1, h2⟩ := fs_spec p g rs k hR q
    rw [← h2]
    unfold viN
    have hsp := sp_get hh hs (fsN p g rs k R q)
    obtain ⟨i1, i2⟩ := ls_bd hh hs k (R.erase (fsN p g rs k R q)) (rs.getD (fsN p g rs k R q) zPt) (by rw [List.length_erase_of_mem h1, hl]; rfl) hsp
    have t := far_tri hh hq hsp (sp_z hh)
    have b := farN_bd hh hq hsp
    omega
/-- The better of what was best and a way. -/
def upd (b : Option (List Int × Int)) (c : List Int × Int) : Option (List Int × Int) := match b with
  | none => some c
  | some x => if c.2 < x.2 then some c else some x
theorem upd_none (c : List Int × Int) : upd none c = some c := rfl
theorem upd_some (x c : List Int × Int) : upd (some x) c = if c.2 < x.2 then some c else some x := rfl
theorem upd_no {x c : List Int × Int} (h : x.2 ≤ c.2) : upd (some x) c = some x := by rw [upd_some, if_neg (by omega)]
theorem upd_twice (b : Option (List Int × Int)) {c d : List Int × Int} (h : c.2 ≤ d.2) : upd (upd b c) d = upd b c := by
  cases b with
  | none => rw [upd_none]; exact upd_no h
  | some x =>
    rw [upd_some x c]
    by_cases e : c.2 < x.2
    · rw [if_pos e, upd_some, if_neg (by omega)]
    · rw [if_neg e, upd_some, if_neg (by omega)]
theorem upd_less (b : Option (List Int × Int)) {c d : List Int × Int} (h : d.2 < c.2) : upd (upd b c) d = upd b d := by
  cases b with
  | none => rw [upd_none, upd_some, if_pos h, upd_none]
  | some x =>
    rw [upd_some x c]
    by_cases e : c.2 < x.2
    · rw [if_pos e, upd_some, if_pos h, upd_some, if_pos (by omega)]
    · rw [if_neg e]
theorem fold_upd (f : Nat → List Int) (v : Nat → Int) (len : Int) (b : Option (List Int × Int)) : ∀ (R : List Nat), R ≠ [] → R.foldl (fun b i => upd b (f i, len + v i)) b = upd b (f ((R.find? fun i => v i == mnL (R.map v)).getD 0), len + mnL (R.map v)) := by
  have key : ∀ (n : Nat) (R : List Nat), R.length = n → R ≠ [] → R.foldl (fun b i => upd b (f i, len + v i)) b = upd b (f ((R.find? fun i => v i == mnL (R.map v)).getD 0), len + mnL (R.map v)) := fun n => by
    induction n with
    | zero => intro R hl hR; exact absurd (List.eq_nil_of_length_eq_zero hl) hR
    | succ n ih =>
      intro R hl hR
      obtain ⟨S, x, rfl⟩ : ∃ S x, R = S ++ [x] := ⟨R.dropLast, R.getLast hR, (List.dropLast_concat_getLast hR).symm⟩
      rw [List.foldl_append]
      simp only [List.foldl_cons, List.foldl_nil, List.map_append, List.map_cons, List.map_nil]
      by_cases hS : S = []
      · subst hS
        simp [mnL]
      · rw [ih S (by simp at hl; exact hl) hS, mnL_snoc, if_neg (by simpa using hS)]
        have hmem := mnL_mem (S.map v) (by simpa using hS)
        by_cases hx : v x < mnL (S.map v)
        · rw [show min (mnL (S.map v)) (v x) = v x by omega, upd_less b (by show len + v x < len + _; omega)]
          have hf : S.find? (fun i => v i == v x) = none := List.find?_eq_none.2 (fun i hi => by
            have := mnL_le (S.map v) (v i) (List.mem_map.2 ⟨i, hi, rfl⟩)
            simp; omega)
          rw [List.find?_append, hf]
          simp
        · rw [show min (mnL (S.map v)) (v x) = mnL (S.map v) by omega, upd_twice b (by show len + _ ≤ len + v x; omega)]
          obtain ⟨i, hi, he⟩ := List.mem_map.1 hmem
          cases hf : S.find? (fun i => v i == mnL (S.map v))
          · have := List.find?_eq_none.1 hf i hi
            simp [he] at this
          · rw [List.find?_append, hf]; rfl
  exact fun R hR => key R.length R rfl hR
/-- The places that are not used. -/
def unL (u : Nat → Bool) (n : Nat) : List Nat := (List.range n).filter fun i => !u i
theorem unL_succ (u : Nat → Bool) (n : Nat) : unL u (n + 1) = unL u n ++ (if u n then [] else [n]) := by
  unfold unL
  rw [List.range_succ, List.filter_append]
  cases h : u n <;> simp [h]
theorem unL_nodup (u : Nat → Bool) (n : Nat) : (unL u n).Nodup := List.Pairwise.filter _ List.nodup_range
theorem unL_mem (u : Nat → Bool) (n i : Nat) : i ∈ unL u n ↔ i < n ∧ u i = false := by
  unfold unL
  rw [List.mem_filter, List.mem_range]
  simp
theorem unL_erase {u u' : Nat → Bool} {n i : Nat} (h : ∀ j, u' j = (u j || decide (j = i))) : unL u' n = (unL u n).erase i := by
  rw [(unL_nodup u n).erase_eq_filter]
  unfold unL
  rw [List.filter_filter]
  refine List.filter_congr (fun j _ => ?_)
  rw [h j]
  by_cases e : j = i
  · subst e; simp
  · simp [e, bne_iff_ne]
/-- What a search from L on makes of the best so far. -/
theorem go_fold (p g : Int) (rs : List RPt) (k : Nat) {R : List Nat} (hR : R ≠ []) (q : RPt) (L : List Int) (len : Int) (b : Option (List Int × Int)) :
    R.foldl (fun b (i : Nat) => upd b ((L ++ [(i : Int)]) ++ bsO p g rs k (R.erase i) (rs.getD i zPt), (len + farN p g q (rs.getD i zPt)) + lsN p g rs k (R.erase i) (rs.getD i zPt))) b = upd b (L ++ bsO p g rs (k + 1) R q, len + lsN p g rs (k + 1) R q) := by
  have h := fold_upd (fun i => (L ++ [(i : Int)]) ++ bsO p g rs k (R.erase i) (rs.getD i zPt)) (viN p g rs k R q) len b R hR
  have e : (fun (b : Option (List Int × Int)) (i : Nat) => upd b ((L ++ [(i : Int)]) ++ bsO p g rs k (R.erase i) (rs.getD i zPt), (len + farN p g q (rs.getD i zPt)) + lsN p g rs k (R.erase i) (rs.getD i zPt))) = fun (b : Option (List Int × Int)) (i : Nat) => upd b ((L ++ [(i : Int)]) ++ bsO p g rs k (R.erase i) (rs.getD i zPt), len + viN p g rs k R q i) := by
    funext b i
    unfold viN
    rw [Int.add_assoc]
  rw [e, h]
  show upd b ((L ++ [((fsN p g rs k R q : Nat) : Int)]) ++ bsO p g rs k (R.erase (fsN p g rs k R q)) (rs.getD (fsN p g rs k R q) zPt), len + lsN p g rs (k + 1) R q) = _
  rw [List.append_assoc]
  rfl
end Go.Proofs.Ythmhpgbkapjjkaa
