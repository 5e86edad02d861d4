/-
  What the law of prices rests on: the amount changes at turns alone, the steps are passed one by one, and rows that do not hold change nothing. Nothing of the program is in it.
-/
import Derived.Test.YtgfgecpgfcipnaaStepMath
namespace Go.Proofs.Ytgfgecpgfcipnaa
set_option linter.unusedVariables false

/-- Two minutes at which the same rows hold have the same row. -/
theorem atN_same (rs : List RPr) (art zn : ByteArray) (m m' : Int) (h : ∀ r ∈ rs, prHolds art zn m r = prHolds art zn m' r) : ∀ k, k ≤ rs.length → atN rs art zn m k = atN rs art zn m' k
  | 0, _ => rfl
  | k + 1, hk => by
    have ih := atN_same rs art zn m m' h k (by omega)
    have e : rs.getD k zPr = rs[k] := by simp [List.getD_eq_getElem?_getD, show k < rs.length by omega]
    have hh : prHolds art zn m (rs.getD k zPr) = prHolds art zn m' (rs.getD k zPr) := by rw [e]; exact h _ (List.getElem_mem _)
    unfold atN
    rw [ih, hh]
theorem amt_same (rs : List RPr) (art zn : ByteArray) (m m' : Int) (h : ∀ r ∈ rs, prHolds art zn m r = prHolds art zn m' r) : amtAt rs art zn m = amtAt rs art zn m' := by
  have e : atAll rs art zn m = atAll rs art zn m' := atN_same rs art zn m m' h rs.length (Nat.le_refl _)
  unfold amtAt; rw [e]
theorem turn_mem {rs : List RPr} {r : RPr} (h : r ∈ rs) : r.fr ∈ turnsL rs ∧ r.to ∈ turnsL rs := by
  unfold turnsL
  exact ⟨List.mem_flatMap.2 ⟨r, h, by simp⟩, List.mem_flatMap.2 ⟨r, h, by simp⟩⟩
/-- Where nothing begins and nothing has ended the amount is what it was. -/
theorem amt_step (rs : List RPr) (art zn : ByteArray) (m : Int) (h : (m + 1) ∉ turnsS rs) : amtAt rs art zn (m + 1) = amtAt rs art zn m := by
  apply amt_same
  intro r hr
  obtain ⟨h1, h2⟩ := turn_mem hr
  have n1 : r.fr ≠ m + 1 := fun e => h ((turnsS_mem rs _).2 (e ▸ h1))
  have n2 : r.to ≠ m + 1 := fun e => h ((turnsS_mem rs _).2 (e ▸ h2))
  unfold prHolds
  rw [show decide (r.fr ≤ m + 1) = decide (r.fr ≤ m) by rw [Bool.eq_iff_iff]; simp; omega, show decide (m + 1 < r.to) = decide (m < r.to) by rw [Bool.eq_iff_iff]; simp; omega]

/-- Of the steps S number k is the last at minute m. -/
def Pos (S : List Int) (f : Int → Int) (fr to : Int) (T : List Int) (m : Int) (k : Nat) : Prop :=
  2 * k + 2 ≤ S.length ∧ S.getD (2 * k + 1) 0 = f m ∧ S.drop (2 * k + 2) = stGo f fr to (T.filter (fun u => decide (m < u))) (f m)
/-- What the round of minute m meets. -/
def Way (S : List Int) (f : Int → Int) (fr to : Int) (T : List Int) (m : Int) (k : Nat) : Prop :=
  (2 * k + 2 = S.length ∧ Pos S f fr to T m k) ∨ (2 * k + 4 ≤ S.length ∧ S.getD (2 * k + 2) 0 ≠ m ∧ Pos S f fr to T m k) ∨ (2 * k + 4 ≤ S.length ∧ S.getD (2 * k + 2) 0 = m ∧ S.getD (2 * k + 3) 0 ≠ S.getD (2 * k + 1) 0 ∧ Pos S f fr to T m (k + 1))
theorem drop_nil {S : List Int} {n : Nat} (h : S.drop n = []) (hn : n ≤ S.length) : n = S.length := by
  have := congrArg List.length h
  simp at this; omega
theorem drop_two {S R : List Int} {n : Nat} {x y : Int} (h : S.drop n = x :: y :: R) : n + 2 ≤ S.length ∧ S.getD n 0 = x ∧ S.getD (n + 1) 0 = y ∧ S.drop (n + 2) = R := by
  have hl := congrArg List.length h
  simp at hl
  have e : ∀ i, (S.drop n)[i]? = S[n + i]? := fun i => by simp
  refine ⟨by omega, ?_, ?_, ?_⟩
  · rw [List.getD_eq_getElem?_getD, ← Nat.add_zero n, ← e 0, h]; rfl
  · rw [List.getD_eq_getElem?_getD, ← e 1, h]; rfl
  · rw [← List.drop_drop, h]; rfl
theorem filter_next (T : List Int) (m : Int) (h : (m + 1) ∉ T) : T.filter (fun u => decide (m < u)) = T.filter (fun u => decide (m + 1 < u)) := by
  apply List.filter_congr
  intro u hu
  have : u ≠ m + 1 := fun e => h (e ▸ hu)
  rw [Bool.eq_iff_iff]; simp; omega
theorem filter_twice (T : List Int) (m : Int) : (T.filter (fun u => decide (m < u))).filter (fun u => decide (m + 1 < u)) = T.filter (fun u => decide (m + 1 < u)) := by
  rw [List.filter_filter]
  apply List.filter_congr
  intro u hu
  rw [Bool.eq_iff_iff]; simp; omega
theorem pos_next {S : List Int} {f : Int → Int} {fr to : Int} {T : List Int} {m : Int} {k : Nat} (hs : T.Pairwise (fun a b => a ≤ b)) (hf : (m + 1) ∉ T → f (m + 1) = f m) (h : Pos S f fr to T m k) (h0 : fr ≤ m) (h1 : m + 1 < to) : Way S f fr to T (m + 1) k := by
  obtain ⟨hl, ha, hr⟩ := h
  have hs' : (T.filter (fun u => decide (m < u))).Pairwise (fun a b => a ≤ b) := List.Pairwise.filter _ hs
  have hfr' : ∀ u ∈ T.filter (fun u => decide (m < u)), fr < u := fun u hu => by
    have := (List.mem_filter.1 hu).2; simp at this; omega
  have hge : ∀ u ∈ T.filter (fun u => decide (m < u)), m + 1 ≤ u := fun u hu => by
    have := (List.mem_filter.1 hu).2; simp at this; omega
  -- the amount at m + 1 is the one at m
  have same : f (m + 1) = f m → Pos S f fr to T (m + 1) k := fun e => by
    refine ⟨hl, by rw [e]; exact ha, ?_⟩
    rw [hr, e, stGo_pass f fr to (m + 1) (f m) h1 e _ hs' hge, filter_twice]
  rcases stGo_find f fr to (f m) _ hs' hfr' with ⟨e, hn⟩ | ⟨t, ht, h3, h4, h5, h6⟩
  · have hlen := drop_nil (hr.trans e) hl
    refine .inl ⟨hlen, same ?_⟩
    by_cases hm : (m + 1) ∈ T
    · have q := hn (m + 1) (List.mem_filter.2 ⟨hm, by simp; omega⟩)
      by_cases q2 : f (m + 1) = f m
      · exact q2
      · exact absurd ⟨h1, q2⟩ q
    · exact hf hm
  · obtain ⟨d1, d2, d3, d4⟩ := drop_two (hr.trans h6)
    by_cases ht' : t = m + 1
    · subst ht'
      refine .inr (.inr ⟨by omega, d2, ?_, by omega, ?_, ?_⟩)
      · rw [show 2 * k + 3 = 2 * k + 2 + 1 by omega, d3, ha]; exact h4
      · rw [show 2 * (k + 1) + 1 = 2 * k + 2 + 1 by omega, d3]
      · rw [show 2 * (k + 1) + 2 = 2 * k + 2 + 2 by omega, d4, filter_twice]
    · have e : f (m + 1) = f m := by
        by_cases hm : (m + 1) ∈ T
        · by_cases q2 : f (m + 1) = f m
          · exact q2
          · have := h5 (m + 1) (List.mem_filter.2 ⟨hm, by simp; omega⟩) h1 q2
            have := hge t ht
            omega
        · exact hf hm
      exact .inr (.inl ⟨by omega, by rw [d2]; exact ht', same e⟩)
theorem pos_first {S : List Int} {f : Int → Int} {fr to : Int} {T : List Int} (hs : T.Pairwise (fun a b => a ≤ b)) (h : fr < to) (hS : S = fr :: f fr :: stGo f fr to T (f fr)) : Way S f fr to T fr 0 := by
  have hp : Pos S f fr to T fr 0 := by
    refine ⟨by rw [hS]; simp, by rw [hS]; rfl, ?_⟩
    rw [← stGo_from f fr to (f fr) h T hs, hS]; rfl
  have hfr' : ∀ u ∈ T.filter (fun u => decide (fr < u)), fr < u := fun u hu => by
    have := (List.mem_filter.1 hu).2; simpa using this
  rcases stGo_find f fr to (f fr) _ (List.Pairwise.filter _ hs) hfr' with ⟨e, hn⟩ | ⟨t, ht, h3, h4, h5, h6⟩
  · exact .inl ⟨drop_nil (hp.2.2.trans e) hp.1, hp⟩
  · obtain ⟨d1, d2, _, _⟩ := drop_two (hp.2.2.trans h6)
    have := hfr' t ht
    exact .inr (.inl ⟨by omega, by rw [d2]; omega, hp⟩)
theorem pos_end {S : List Int} {f : Int → Int} {fr to : Int} {T : List Int} {m : Int} {k : Nat} (h : Pos S f fr to T m k) (hm : m + 1 = to) : 2 * k + 2 = S.length := by
  obtain ⟨hl, _, hr⟩ := h
  refine drop_nil (hr.trans ?_) hl
  have : ∀ u ∈ T.filter (fun u => decide (m < u)), to ≤ u := fun u hu => by
    have := (List.mem_filter.1 hu).2; simp at this; omega
  cases hT : T.filter (fun u => decide (m < u)) with
  | nil => rfl
  | cons u U => rw [stGo, if_pos (this u (by rw [hT]; simp))]

/-- The row that counts, as a row. -/
def pick1 (art zn : ByteArray) (m : Int) (b : Option RPr) (r : RPr) : Option RPr := if prHolds art zn m r = true then (match b with | none => some r | some q => if prAhead r q = true then some r else some q) else b
def bestR (art zn : ByteArray) (m : Int) (rs : List RPr) : Option RPr := rs.foldl (pick1 art zn m) none
theorem bestR_snoc (art zn : ByteArray) (m : Int) (rs : List RPr) (r : RPr) : bestR art zn m (rs ++ [r]) = pick1 art zn m (bestR art zn m rs) r := by unfold bestR; rw [List.foldl_append]; rfl
theorem best_at (rs : List RPr) (art zn : ByteArray) (m : Int) : ∀ k, k ≤ rs.length → (atN rs art zn m k = -1 ∧ bestR art zn m (rs.take k) = none) ∨ ∃ j : Nat, j < k ∧ atN rs art zn m k = (j : Int) ∧ bestR art zn m (rs.take k) = some (rs.getD j zPr)
  | 0, _ => .inl ⟨rfl, rfl⟩
  | k + 1, hk => by
    have hlt : k < rs.length := by omega
    have e : rs.getD k zPr = rs[k] := by simp [List.getD_eq_getElem?_getD, hlt]
    have et : rs.take (k + 1) = rs.take k ++ [rs.getD k zPr] := by rw [List.take_succ_eq_append_getElem hlt, e]
    rw [et, bestR_snoc]
    cases hh : prHolds art zn m (rs.getD k zPr)
    · have hp : ∀ b, pick1 art zn m b (rs.getD k zPr) = b := fun b => by unfold pick1; rw [hh]; rfl
      rw [hp, atN_no hh]
      rcases best_at rs art zn m k (by omega) with h | ⟨j, hj, h⟩
      · exact .inl h
      · exact .inr ⟨j, by omega, h⟩
    · rcases best_at rs art zn m k (by omega) with ⟨h1, h2⟩ | ⟨j, hj, h1, h2⟩
      · refine .inr ⟨k, by omega, atN_new hh h1, ?_⟩
        rw [h2]; unfold pick1; rw [hh]; rfl
      · rw [atN_old hh h1, h2]
        cases ha : prAhead (rs.getD k zPr) (rs.getD j zPr)
        · refine .inr ⟨j, by omega, by simp, ?_⟩
          unfold pick1; rw [hh, if_pos rfl]
          show (if prAhead (rs.getD k zPr) (rs.getD j zPr) = true then some (rs.getD k zPr) else some (rs.getD j zPr)) = _
          rw [ha]; rfl
        · refine .inr ⟨k, by omega, by simp, ?_⟩
          unfold pick1; rw [hh, if_pos rfl]
          show (if prAhead (rs.getD k zPr) (rs.getD j zPr) = true then some (rs.getD k zPr) else some (rs.getD j zPr)) = _
          rw [ha]; rfl
theorem best_all (rs : List RPr) (art zn : ByteArray) (m : Int) : (atAll rs art zn m = -1 ∧ bestR art zn m rs = none) ∨ ∃ j : Nat, j < rs.length ∧ atAll rs art zn m = (j : Int) ∧ bestR art zn m rs = some (rs.getD j zPr) := by
  have := best_at rs art zn m rs.length (Nat.le_refl _)
  rwa [List.take_length] at this
/-- The rows that the law keeps. -/
def hldB (art : ByteArray) (m : Int) (r : RPr) : Bool := (r.art.toList == art.toList) && decide (r.fr ≤ m) && decide (m < r.to)
theorem best_held (art zn : ByteArray) (m : Int) (rs : List RPr) : bestR art zn m (rs.filter (hldB art m)) = bestR art zn m rs := by
  unfold bestR
  have : ∀ (l : List RPr) (b : Option RPr), (l.filter (hldB art m)).foldl (pick1 art zn m) b = l.foldl (pick1 art zn m) b := by
    intro l
    induction l with
    | nil => intro b; rfl
    | cons r l ih =>
      intro b
      cases hq : hldB art m r
      · rw [List.filter_cons_of_neg (by rw [hq]; simp), ih]
        have hn : prHolds art zn m r = false := by
          unfold hldB at hq; unfold prHolds
          revert hq
          generalize (r.art.toList == art.toList) = x
          generalize decide (r.fr ≤ m) = y
          generalize decide (m < r.to) = z
          cases x <;> cases y <;> cases z <;> simp
        have e : pick1 art zn m b r = b := by unfold pick1; rw [hn]; rfl
        rw [List.foldl_cons, e]
      · rw [List.filter_cons_of_pos hq, List.foldl_cons, List.foldl_cons, ih]
  exact this rs none
/-- Rows that do not hold change nothing. -/
theorem held_ways (rs : List RPr) (art zn : ByteArray) (m : Int) :
    (atAll rs art zn m = -1 ∧ atAll (rs.filter (hldB art m)) art zn m = -1) ∨ ∃ i j : Nat, i < rs.length ∧ j < (rs.filter (hldB art m)).length ∧ atAll rs art zn m = (i : Int) ∧ atAll (rs.filter (hldB art m)) art zn m = (j : Int) ∧ (rs.filter (hldB art m)).getD j zPr = rs.getD i zPr := by
  rcases best_all rs art zn m with ⟨h1, h2⟩ | ⟨i, hi, h1, h2⟩
  · rcases best_all (rs.filter (hldB art m)) art zn m with ⟨g1, g2⟩ | ⟨j, hj, g1, g2⟩
    · exact .inl ⟨h1, g1⟩
    · rw [best_held, h2] at g2; cases g2
  · rcases best_all (rs.filter (hldB art m)) art zn m with ⟨g1, g2⟩ | ⟨j, hj, g1, g2⟩
    · rw [best_held, h2] at g2; cases g2
    · rw [best_held, h2] at g2
      exact .inr ⟨i, j, hi, hj, h1, g1, (Option.some.inj g2).symm⟩
end Go.Proofs.Ytgfgecpgfcipnaa
