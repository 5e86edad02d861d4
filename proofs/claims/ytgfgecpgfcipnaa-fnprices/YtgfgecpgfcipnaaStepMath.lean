/-
  How a price goes from step to step, as a function of the rows: the program's way (over the sorted turns) and the specification's (the next turn at which the amount is another one) come to the same list. Nothing of the program is in it.
-/
import Derived.Test.YtgfgecpgfcipnaaPriceD
namespace Go.Proofs.Ytgfgecpgfcipnaa
set_option linter.unusedVariables false

/-- The Amount at a minute, -1 where no row holds. -/
def amtAt (rs : List RPr) (art zn : ByteArray) (m : Int) : Int := if 0 ≤ atAll rs art zn m then (rs.getD (atAll rs art zn m).toNat zPr).am else -1
/-- The minutes at which rows begin or have ended. -/
def turnsL (rs : List RPr) : List Int := rs.flatMap fun r => [r.fr, r.to]
def leZ (a b : Int) : Bool := decide (a ≤ b)
def turnsS (rs : List RPr) : List Int := (turnsL rs).mergeSort leZ
theorem leZ_trans (a b c : Int) (h1 : leZ a b = true) (h2 : leZ b c = true) : leZ a c = true := by simp only [leZ, decide_eq_true_eq] at *; omega
theorem leZ_total (a b : Int) : (leZ a b || leZ b a) = true := by simp only [leZ, Bool.or_eq_true, decide_eq_true_eq]; omega
theorem turnsS_sorted (rs : List RPr) : (turnsS rs).Pairwise (fun a b => a ≤ b) :=
  (List.pairwise_mergeSort leZ_trans leZ_total (turnsL rs)).imp (fun h => by simpa [leZ] using h)
theorem turnsS_mem (rs : List RPr) (t : Int) : t ∈ turnsS rs ↔ t ∈ turnsL rs := (List.mergeSort_perm (turnsL rs) leZ).mem_iff

/-- The steps behind the first, by the sorted turns. -/
def stGo (f : Int → Int) (fr to : Int) : List Int → Int → List Int
  | [], _ => []
  | t :: T, am => if to ≤ t then [] else if fr < t ∧ f t ≠ am then t :: f t :: stGo f fr to T (f t) else stGo f fr to T am
/-- The next turn at which the amount is another one; to without one. -/
def nxG (f : Int → Int) (at' am : Int) : List Int → Int → Int
  | [], nx => nx
  | t :: U, nx => nxG f at' am U (if at' < t ∧ t < nx ∧ f t ≠ am then t else nx)
theorem nxG_le (f : Int → Int) (at' am : Int) : ∀ U nx, nxG f at' am U nx ≤ nx
  | [], nx => Int.le_refl _
  | t :: U, nx => by
    unfold nxG
    split
    · rename_i h; have := nxG_le f at' am U t; omega
    · exact nxG_le f at' am U nx
theorem nxG_mem (f : Int → Int) (at' am : Int) : ∀ U nx, nxG f at' am U nx = nx ∨ (nxG f at' am U nx ∈ U ∧ at' < nxG f at' am U nx ∧ nxG f at' am U nx < nx ∧ f (nxG f at' am U nx) ≠ am)
  | [], nx => .inl rfl
  | t :: U, nx => by
    unfold nxG
    split
    · rename_i h
      rcases nxG_mem f at' am U t with e | ⟨e1, e2, e3, e4⟩
      · rw [e]; exact .inr ⟨by simp, h.1, h.2.1, h.2.2⟩
      · exact .inr ⟨List.mem_cons_of_mem _ e1, e2, by omega, e4⟩
    · rcases nxG_mem f at' am U nx with e | ⟨e1, e2, e3, e4⟩
      · exact .inl e
      · exact .inr ⟨List.mem_cons_of_mem _ e1, e2, e3, e4⟩
theorem nxG_min (f : Int → Int) (at' am : Int) : ∀ U nx t, t ∈ U → at' < t → f t ≠ am → nxG f at' am U nx ≤ t
  | u :: U, nx, t, ht, h1, h2 => by
    unfold nxG
    rcases List.mem_cons.1 ht with e | e
    · subst e
      split
      · exact nxG_le f at' am U t
      · rename_i h
        have := nxG_le f at' am U nx
        have : ¬ t < nx := fun q => h ⟨h1, q, h2⟩
        omega
    · exact nxG_min f at' am U _ t e h1 h2

/-- Elements that are not above the minute of the last step are passed by. -/
theorem stGo_pass (f : Int → Int) (fr to t am : Int) (ht : t < to) (hf : f t = am) : ∀ T : List Int, T.Pairwise (fun a b => a ≤ b) → (∀ u ∈ T, t ≤ u) → stGo f fr to T am = stGo f fr to (T.filter (fun u => decide (t < u))) am
  | [], _, _ => rfl
  | u :: T, hs, hge => by
    obtain ⟨h1, h2⟩ := List.pairwise_cons.1 hs
    by_cases hu : u = t
    · subst hu
      rw [List.filter_cons_of_neg (by simp), ← stGo_pass f fr to u am ht hf T h2 (fun v hv => h1 v hv)]
      rw [stGo, if_neg (by omega), if_neg (fun q => q.2 hf)]
    · have hlt : t < u := by have := hge u (by simp); omega
      rw [List.filter_eq_self.2]
      intro v hv
      rcases List.mem_cons.1 hv with e | e
      · subst e; exact decide_eq_true hlt
      · have := h1 v e; exact decide_eq_true (by omega)
theorem stGo_from (f : Int → Int) (fr to am : Int) (h : fr < to) : ∀ T : List Int, T.Pairwise (fun a b => a ≤ b) → stGo f fr to T am = stGo f fr to (T.filter (fun u => decide (fr < u))) am
  | [], _ => rfl
  | u :: T, hs => by
    obtain ⟨h1, h2⟩ := List.pairwise_cons.1 hs
    by_cases hu : fr < u
    · rw [List.filter_eq_self.2]
      intro v hv
      rcases List.mem_cons.1 hv with e | e
      · subst e; exact decide_eq_true hu
      · have := h1 v e; exact decide_eq_true (by omega)
    · rw [List.filter_cons_of_neg (by simp; omega), ← stGo_from f fr to am h T h2]
      rw [stGo, if_neg (by omega), if_neg (fun q => hu q.1)]
/-- The first step that comes. -/
theorem stGo_find (f : Int → Int) (fr to am : Int) : ∀ T : List Int, T.Pairwise (fun a b => a ≤ b) → (∀ u ∈ T, fr < u) →
    (stGo f fr to T am = [] ∧ ∀ u ∈ T, ¬ (u < to ∧ f u ≠ am)) ∨ ∃ t, t ∈ T ∧ t < to ∧ f t ≠ am ∧ (∀ u ∈ T, u < to → f u ≠ am → t ≤ u) ∧ stGo f fr to T am = t :: f t :: stGo f fr to (T.filter (fun u => decide (t < u))) (f t)
  | [], _, _ => .inl ⟨rfl, fun u hu => by cases hu⟩
  | u :: T, hs, hfr => by
    obtain ⟨h1, h2⟩ := List.pairwise_cons.1 hs
    by_cases hto : to ≤ u
    · refine .inl ⟨by rw [stGo, if_pos hto], fun v hv q => ?_⟩
      rcases List.mem_cons.1 hv with e | e
      · subst e; omega
      · have := h1 v e; omega
    · by_cases hne : f u ≠ am
      · refine .inr ⟨u, by simp, by omega, hne, fun v hv _ _ => ?_, ?_⟩
        · rcases List.mem_cons.1 hv with e | e
          · subst e; exact Int.le_refl _
          · exact h1 v e
        · rw [stGo, if_neg hto, if_pos ⟨hfr u (by simp), hne⟩, List.filter_cons_of_neg (by simp), ← stGo_pass f fr to u (f u) (by omega) rfl T h2 h1]
      · have hst : stGo f fr to (u :: T) am = stGo f fr to T am := by rw [stGo, if_neg hto, if_neg (fun q => hne q.2)]
        rcases stGo_find f fr to am T h2 (fun v hv => hfr v (by simp [hv])) with ⟨e, hn⟩ | ⟨t, ht, h3, h4, h5, h6⟩
        · refine .inl ⟨hst.trans e, fun v hv q => ?_⟩
          rcases List.mem_cons.1 hv with e | e
          · subst e; exact hne q.2
          · exact hn v e q
        · refine .inr ⟨t, by simp [ht], h3, h4, fun v hv q1 q2 => ?_, ?_⟩
          · rcases List.mem_cons.1 hv with e | e
            · subst e; exact absurd q2 hne
            · exact h5 v e q1 q2
          · rw [hst, h6, List.filter_cons_of_neg (by have := h1 t ht; simp; omega)]
/-- The specification's way: one step more, or the end. -/
theorem stGo_next (f : Int → Int) (fr to at' am : Int) (T U : List Int) (hs : T.Pairwise (fun a b => a ≤ b)) (hm : ∀ t, t ∈ T ↔ t ∈ U) (hfa : fr ≤ at') (hto : at' < to) :
    (nxG f at' am U to = to ∧ stGo f fr to (T.filter (fun u => decide (at' < u))) am = []) ∨
    (at' < nxG f at' am U to ∧ nxG f at' am U to < to ∧ stGo f fr to (T.filter (fun u => decide (at' < u))) am = nxG f at' am U to :: f (nxG f at' am U to) :: stGo f fr to (T.filter (fun u => decide (nxG f at' am U to < u))) (f (nxG f at' am U to))) := by
  have hs' : (T.filter (fun u => decide (at' < u))).Pairwise (fun a b => a ≤ b) := List.Pairwise.filter _ hs
  have hfr' : ∀ u ∈ T.filter (fun u => decide (at' < u)), fr < u := fun u hu => by
    have := (List.mem_filter.1 hu).2; simp at this; omega
  rcases stGo_find f fr to am _ hs' hfr' with ⟨e, hn⟩ | ⟨t, ht, h3, h4, h5, h6⟩
  · refine .inl ⟨?_, e⟩
    rcases nxG_mem f at' am U to with q | ⟨q1, q2, q3, q4⟩
    · exact q
    · exact absurd ⟨q3, q4⟩ (hn _ (List.mem_filter.2 ⟨(hm _).2 q1, decide_eq_true q2⟩))
  · obtain ⟨ht1, ht2⟩ := List.mem_filter.1 ht
    have ht2' : at' < t := by simpa using ht2
    have hle := nxG_min f at' am U to t ((hm t).1 ht1) ht2' h4
    have hx : nxG f at' am U to = t := by
      rcases nxG_mem f at' am U to with q | ⟨q1, q2, q3, q4⟩
      · omega
      · have := h5 _ (List.mem_filter.2 ⟨(hm _).2 q1, decide_eq_true q2⟩) q3 q4
        omega
    rw [hx]
    refine .inr ⟨ht2', h3, ?_⟩
    rw [h6, List.filter_filter]
    congr 3
    apply List.filter_congr
    intro u _
    rw [Bool.eq_iff_iff]; simp; omega

/-- All steps, one behind the other: minute, amount. -/
def stepsL (rs : List RPr) (art zn : ByteArray) (fr to : Int) : List Int := fr :: amtAt rs art zn fr :: stGo (amtAt rs art zn) fr to (turnsS rs) (amtAt rs art zn fr)
def rgB (fr to : Int) : Bool := decide (0 ≤ fr ∧ fr < to ∧ to ≤ 10000000)
theorem rg_ways (fr to : Int) : (fr < 0 ∧ rgB fr to = false) ∨ (0 ≤ fr ∧ to ≤ fr ∧ rgB fr to = false) ∨ (0 ≤ fr ∧ fr < to ∧ 10000000 < to ∧ rgB fr to = false) ∨ (0 ≤ fr ∧ fr < to ∧ to ≤ 10000000 ∧ rgB fr to = true) := by
  rcases (by omega : fr < 0 ∨ (0 ≤ fr ∧ to ≤ fr) ∨ (0 ≤ fr ∧ fr < to ∧ 10000000 < to) ∨ (0 ≤ fr ∧ fr < to ∧ to ≤ 10000000)) with h | ⟨h, h'⟩ | ⟨h, h', h''⟩ | ⟨h, h', h''⟩
  · exact .inl ⟨h, decide_eq_false (by omega)⟩
  · exact .inr (.inl ⟨h, h', decide_eq_false (by omega)⟩)
  · exact .inr (.inr (.inl ⟨h, h', h'', decide_eq_false (by omega)⟩))
  · exact .inr (.inr (.inr ⟨h, h', h'', decide_eq_true (by omega)⟩))
theorem stGo_len (f : Int → Int) (fr to : Int) : ∀ T am, (stGo f fr to T am).length ≤ T.length * 2 ∧ (stGo f fr to T am).length % 2 = 0
  | [], am => ⟨by simp [stGo], rfl⟩
  | t :: T, am => by
    unfold stGo
    split
    · exact ⟨by simp, rfl⟩
    · split
      · have := stGo_len f fr to T (f t); simp; omega
      · have := stGo_len f fr to T am; simp; omega
theorem turnsL_len (rs : List RPr) : (turnsL rs).length = rs.length * 2 := by
  unfold turnsL
  induction rs with
  | nil => rfl
  | cons r rs ih => simp [List.flatMap_cons] at *; omega
theorem turnsS_len (rs : List RPr) : (turnsS rs).length = rs.length * 2 := by unfold turnsS; rw [List.length_mergeSort, turnsL_len]
theorem stepsL_len (rs : List RPr) (art zn : ByteArray) (fr to : Int) : (stepsL rs art zn fr to).length ≤ rs.length * 4 + 2 ∧ (stepsL rs art zn fr to).length % 2 = 0 := by
  have := stGo_len (amtAt rs art zn) fr to (turnsS rs) (amtAt rs art zn fr)
  rw [turnsS_len] at this
  unfold stepsL; simp; omega
end Go.Proofs.Ytgfgecpgfcipnaa
