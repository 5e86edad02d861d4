/-
  Rows that are right stay right where a gap is filled; what the fill of one class keeps. Nothing of the program is in it.
-/
import Derived.Test.YtoaimjocphfcaaaTaxG
import Derived.Test.YtoaimjocphfcaaaDrawTax3
namespace Go.Proofs.Ytoaimjocphfcaaa
set_option linter.unusedVariables false

theorem trGo_iff (rs : List TR) : ∀ f k, k + f = rs.length → (trGo rs f k = true ↔ ∀ i, k ≤ i → i < rs.length → trOne (rs.getD i tr0) = true ∧ ((rs.take i).any fun q => clash q (rs.getD i tr0)) = false)
  | 0, k, h => ⟨fun _ i h1 h2 => by omega, fun _ => rfl⟩
  | f + 1, k, h => by
    rw [trGo, Bool.and_eq_true, Bool.and_eq_true, trGo_iff rs f (k + 1) (by omega)]
    constructor
    · rintro ⟨⟨h1, h2⟩, h3⟩ i hi hl
      by_cases e : i = k
      · subst e; exact ⟨h1, by simpa using h2⟩
      · exact h3 i (by omega) hl
    · intro h1
      obtain ⟨h2, h3⟩ := h1 k (Nat.le_refl _) (by omega)
      exact ⟨⟨h2, by rw [h3]; rfl⟩, fun i hi hl => h1 i (by omega) hl⟩
theorem trAll_iff (rs : List TR) : trAll rs = true ↔ rs.length ≤ 60 ∧ ∀ i, i < rs.length → trOne (rs.getD i tr0) = true ∧ ((rs.take i).any fun q => clash q (rs.getD i tr0)) = false := by
  unfold trAll
  by_cases h : 60 < rs.length
  · rw [if_pos h]; constructor
    · intro h'; cases h'
    · intro h'; omega
  · rw [if_neg h, trGo_iff rs rs.length 0 (by omega)]
    constructor
    · intro h'; exact ⟨by omega, fun i hi => h' i (by omega) hi⟩
    · intro h' i _ hi; exact h'.2 i hi
theorem trAll_one {rs : List TR} (h : trAll rs = true) : ∀ r ∈ rs, trOne r = true := fun r hr => by
  obtain ⟨i, hi, e⟩ := List.getElem_of_mem hr
  have := (((trAll_iff rs).1 h).2 i hi).1
  rw [show rs.getD i tr0 = rs[i] by simp [List.getD_eq_getElem?_getD, hi], e] at this
  exact this
theorem trAll_snoc {rs : List TR} {r : TR} (h : trAll rs = true) (hl : rs.length < 60) (h1 : trOne r = true) (h2 : ∀ q ∈ rs, clash q r = false) : trAll (rs ++ [r]) = true := by
  rw [trAll_iff] at h ⊢
  refine ⟨by simp; omega, fun i hi => ?_⟩
  rw [List.length_append] at hi
  by_cases e : i < rs.length
  · have e1 : (rs ++ [r]).getD i tr0 = rs.getD i tr0 := by rw [List.getD_eq_getElem?_getD, List.getD_eq_getElem?_getD, List.getElem?_append_left e]
    rw [e1, List.take_append_of_le_length (by omega)]
    exact h.2 i e
  · obtain rfl : i = rs.length := by simp at hi; omega
    have e1 : (rs ++ [r]).getD rs.length tr0 = r := by simp [List.getD_eq_getElem?_getD]
    rw [e1, List.take_left]
    exact ⟨h1, by rw [List.any_eq_false]; intro q hq; simp [h2 q hq]⟩
theorem one_day {r : TR} (h : trOne r = true) : r.fr < r.to := by
  unfold trOne at h
  simp only [Bool.and_eq_true, decide_eq_true_eq] at h
  exact h.1.2.2.1

/-- Is a day covered by a row of the class without a place? -/
def cov (rs : List TR) (c d : Int) : Prop := ∃ r ∈ rs, hit c ⟨#[]⟩ d r = true
theorem hit_iff (c d : Int) (r : TR) : hit c ⟨#[]⟩ d r = true ↔ r.cl = c ∧ r.pl.toList = [] ∧ r.fr ≤ d ∧ d < r.to := by
  have e : (⟨#[]⟩ : ByteArray).toList = [] := by rw [ByteArray.toList_eq]
  unfold hit onDay
  rw [e]
  simp only [Bool.and_eq_true, beq_iff_eq, decide_eq_true_eq]
  constructor
  · rintro ⟨⟨h1, h2⟩, h3, h4⟩; exact ⟨h1, h2, h3, h4⟩
  · rintro ⟨h1, h2, h3, h4⟩; exact ⟨⟨h1, h2⟩, h3, h4⟩
theorem idx_cov {rs : List TR} {c d x : Int} (h : IdxOf rs (rs.find? (hit c ⟨#[]⟩ d)) x) : (0 ≤ x ∧ cov rs c d) ∨ (x = -1 ∧ ¬ cov rs c d) := by
  rcases h with ⟨h1, h2⟩ | ⟨k, hk, h1, h2⟩
  · refine .inr ⟨h1, fun ⟨r, hr, hh⟩ => ?_⟩
    have := List.find?_eq_none.1 h2 r hr
    exact this hh
  · exact .inl ⟨by omega, _, List.mem_of_find?_eq_some h2, List.find?_some h2⟩
theorem cov_mono {rs : List TR} {c d : Int} (h : cov rs c d) (r : TR) : cov (rs ++ [r]) c d := by
  obtain ⟨q, hq, hh⟩ := h
  exact ⟨q, List.mem_append.2 (.inl hq), hh⟩
/-- The row that fills a gap. -/
def gapRow (c f d : Int) : TR := ⟨c, ⟨#[]⟩, f, d, 7 * c, 100⟩
theorem gap_one {c f d : Int} (hc : 1 ≤ c) (hc' : c ≤ 3) (h0 : 0 ≤ f) (h1 : f < d) (h2 : d ≤ 200) : trOne (gapRow c f d) = true := by
  have e : (⟨#[]⟩ : ByteArray).toList.isEmpty = true := by rw [ByteArray.toList_eq]; rfl
  unfold gapRow trOne
  simp only [Bool.and_eq_true, Bool.or_eq_true, decide_eq_true_eq]
  refine ⟨⟨⟨?_, .inl e⟩, ?_⟩, ?_⟩
  · exact decide_eq_true (by omega)
  · omega
  · exact decide_eq_true (by omega)
theorem gap_clash {rs : List TR} {c f d : Int} (h : trAll rs = true) (hu : ∀ x, f ≤ x → x < d → ¬ cov rs c x) (h1 : f < d) : ∀ q ∈ rs, clash q (gapRow c f d) = false := fun q hq => by
  cases hc : clash q (gapRow c f d)
  · rfl
  · exfalso
    have e : (⟨#[]⟩ : ByteArray).toList = [] := by rw [ByteArray.toList_eq]
    unfold clash meets gapRow at hc
    rw [e] at hc
    simp only [Bool.and_eq_true, beq_iff_eq, decide_eq_true_eq] at hc
    obtain ⟨⟨g1, g2⟩, g3, g4⟩ := hc
    have hq1 := one_day (trAll_one h q hq)
    by_cases hx : q.fr ≤ f
    · exact hu f (Int.le_refl _) h1 ⟨q, hq, (hit_iff _ _ _).2 ⟨g1, g2, hx, g4⟩⟩
    · exact hu q.fr (by omega) g3 ⟨q, hq, (hit_iff _ _ _).2 ⟨g1, g2, Int.le_refl _, hq1⟩⟩
/-- How many drawn rows of the class without a place begin at the day or behind it. -/
def later0 (rs0 : List TR) (c d : Int) : Nat := (rs0.filter fun r => decide (r.cl = c ∧ r.pl.toList = [] ∧ d ≤ r.fr)).length
theorem later0_le (rs0 : List TR) (c d : Int) : later0 rs0 c d ≤ rs0.length := List.length_filter_le _ _
theorem later0_mono (rs0 : List TR) (c : Int) {d e : Int} (h : d ≤ e) : later0 rs0 c e ≤ later0 rs0 c d := by
  unfold later0
  induction rs0 with
  | nil => exact Nat.le_refl _
  | cons r rs ih =>
    rw [List.filter_cons, List.filter_cons]
    by_cases h1 : r.cl = c ∧ r.pl.toList = [] ∧ e ≤ r.fr
    · rw [if_pos (decide_eq_true h1), if_pos (decide_eq_true ⟨h1.1, h1.2.1, by omega⟩)]; simp only [List.length_cons]; omega
    · rw [if_neg (by simpa using h1)]
      split
      · simp only [List.length_cons]; omega
      · exact ih
theorem later0_drop (rs0 : List TR) (c d : Int) (h : ∃ r ∈ rs0, r.cl = c ∧ r.pl.toList = [] ∧ r.fr = d) : later0 rs0 c (d + 1) + 1 ≤ later0 rs0 c d := by
  unfold later0
  induction rs0 with
  | nil => obtain ⟨r, hr, _⟩ := h; cases hr
  | cons r rs ih =>
    have hm := later0_mono rs c (show d ≤ d + 1 by omega)
    unfold later0 at hm
    rw [List.filter_cons, List.filter_cons]
    obtain ⟨q, hq, h1, h2, h3⟩ := h
    rcases List.mem_cons.1 hq with e | e
    · subst e
      rw [if_neg (by simp; omega), if_pos (decide_eq_true ⟨h1, h2, by omega⟩)]
      simp only [List.length_cons]; omega
    · have hi := ih ⟨q, e, h1, h2, h3⟩
      by_cases g : r.cl = c ∧ r.pl.toList = [] ∧ d + 1 ≤ r.fr
      · rw [if_pos (decide_eq_true g), if_pos (decide_eq_true ⟨g.1, g.2.1, by omega⟩)]; simp only [List.length_cons]; omega
      · rw [if_neg (by simpa using g)]
        split
        · simp only [List.length_cons]; omega
        · exact hi
/-- What holds of the rows when the classes below k + 1 are filled. -/
def ClsInv (rs0 rs : List TR) (k : Nat) : Prop :=
  trAll rs = true ∧ rs.length ≤ 9 + 10 * k ∧ (∀ r ∈ rs, r ∈ rs0 ∨ r.cl ≤ (k : Int)) ∧ (∀ r ∈ rs, TrOK r) ∧ ∀ c : Int, 1 ≤ c → c ≤ (k : Int) → ∀ d, 0 ≤ d → d < 200 → cov rs c d
/-- .. and while class k + 1 is filled: days below f are covered, those from f on are not, as far as day d. -/
def DayInv (rs0 rs : List TR) (k : Nat) (f d : Int) : Prop :=
  trAll rs = true ∧ (rs.length + later0 rs0 ((k : Int) + 1) d + (if d ≤ 200 then 1 else 0) ≤ 9 + 10 * k + 10) ∧ (∀ r ∈ rs, r ∈ rs0 ∨ r.cl ≤ (k : Int) ∨ (r.cl = (k : Int) + 1 ∧ r.to ≤ f)) ∧ (∀ r ∈ rs, TrOK r) ∧ (∀ c : Int, 1 ≤ c → c ≤ (k : Int) → ∀ d, 0 ≤ d → d < 200 → cov rs c d) ∧
  (0 ≤ f ∧ f ≤ d ∧ d ≤ 201 ∧ (200 < d → f = 200)) ∧ (∀ x, 0 ≤ x → x < f → cov rs ((k : Int) + 1) x) ∧ ∀ x, f ≤ x → x < d → x < 200 → ¬ cov rs ((k : Int) + 1) x
theorem DayInv.start {rs0 rs : List TR} {k : Nat} (h : ClsInv rs0 rs k) (h0 : rs0.length ≤ 9) : DayInv rs0 rs k 0 0 := by
  obtain ⟨h1, h2, h3, h4, h5⟩ := h
  have := later0_le rs0 ((k : Int) + 1) 0
  refine ⟨h1, ?_, fun r hr => (h3 r hr).imp id .inl, h4, h5, ⟨by omega, by omega, by omega, by omega⟩, fun x _ _ => by omega, fun x _ _ => by omega⟩
  rw [if_pos (by omega)]; omega
theorem DayInv.next {rs0 rs : List TR} {k : Nat} {f d : Int} (h : DayInv rs0 rs k f d) (hd : d < 200) (hc : ¬ cov rs ((k : Int) + 1) d) : DayInv rs0 rs k f (d + 1) := by
  obtain ⟨h1, h2, h3, h4, h5, ⟨q1, q2, q3, q4⟩, h6, h7⟩ := h
  have := later0_mono rs0 ((k : Int) + 1) (show d ≤ d + 1 by omega)
  refine ⟨h1, ?_, h3, h4, h5, ⟨q1, by omega, by omega, by omega⟩, h6, fun x x1 x2 x3 => ?_⟩
  · rw [if_pos (by omega)] at h2 ⊢; omega
  · by_cases e : x = d
    · subst e; exact hc
    · exact h7 x x1 (by omega) x3
/-- Behind the fill at day d: all days up to d are covered. -/
def MidInv (rs0 rs : List TR) (k : Nat) (d : Int) : Prop :=
  trAll rs = true ∧ (rs.length + later0 rs0 ((k : Int) + 1) (d + 1) + (if d + 1 ≤ 200 then 1 else 0) ≤ 9 + 10 * k + 10) ∧ (∀ r ∈ rs, r ∈ rs0 ∨ r.cl ≤ (k : Int) ∨ (r.cl = (k : Int) + 1 ∧ r.to ≤ d)) ∧ (∀ r ∈ rs, TrOK r) ∧ (∀ c : Int, 1 ≤ c → c ≤ (k : Int) → ∀ d, 0 ≤ d → d < 200 → cov rs c d) ∧
  (0 ≤ d ∧ d ≤ 200) ∧ ∀ x, 0 ≤ x → x < d → cov rs ((k : Int) + 1) x
theorem DayInv.same {rs0 rs : List TR} {k : Nat} {d : Int} (h : DayInv rs0 rs k d d) (hd : d ≤ 200) : MidInv rs0 rs k d := by
  obtain ⟨h1, h2, h3, h4, h5, ⟨q1, q2, q3, q4⟩, h6, h7⟩ := h
  have := later0_mono rs0 ((k : Int) + 1) (show d ≤ d + 1 by omega)
  refine ⟨h1, ?_, h3, h4, h5, ⟨q1, hd⟩, h6⟩
  rw [if_pos (by omega)] at h2; split <;> omega
theorem DayInv.fill {rs0 rs : List TR} {k : Nat} {f d : Int} (h : DayInv rs0 rs k f d) (hk : k ≤ 2) (hd : d ≤ 200) (hfd : f < d) (hc : d = 200 ∨ cov rs ((k : Int) + 1) d) : MidInv rs0 (rs ++ [gapRow ((k : Int) + 1) f d]) k d := by
  obtain ⟨h1, h2, h3, h4, h5, ⟨q1, q2, q3, q4⟩, h6, h7⟩ := h
  have hl : rs.length < 60 := by rw [if_pos hd] at h2; omega
  have hu : ∀ x, f ≤ x → x < d → ¬ cov rs ((k : Int) + 1) x := fun x x1 x2 => h7 x x1 x2 (by omega)
  refine ⟨trAll_snoc h1 hl (gap_one (by omega) (by omega) q1 hfd hd) (gap_clash h1 hu hfd), ?_, fun r hr => ?_, fun r hr => ?_, fun c c1 c2 x x1 x2 => cov_mono (h5 c c1 c2 x x1 x2) _, ⟨by omega, hd⟩, fun x x1 x2 => ?_⟩
  · rw [List.length_append]
    rw [if_pos hd] at h2
    rcases hc with e | ⟨r, hr, hh⟩
    · rw [if_neg (by omega)]
      have := later0_mono rs0 ((k : Int) + 1) (show d ≤ d + 1 by omega)
      simp; omega
    · obtain ⟨g1, g2, g3, g4⟩ := (hit_iff _ _ _).1 hh
      have hfr : r.fr = d := by
        by_cases e : r.fr = d
        · exact e
        · exfalso
          have hx := hu (if r.fr ≤ f then f else r.fr) (by split <;> omega) (by split <;> omega)
          exact hx ⟨r, hr, (hit_iff _ _ _).2 ⟨g1, g2, by split <;> omega, by split <;> omega⟩⟩
      have hr0 : r ∈ rs0 := by
        rcases h3 r hr with e | e | ⟨e, e'⟩
        · exact e
        · omega
        · omega
      have := later0_drop rs0 ((k : Int) + 1) d ⟨r, hr0, g1, g2, hfr⟩
      simp
      split <;> omega
  · rcases List.mem_append.1 hr with e | e
    · rcases h3 r e with e | e | ⟨e, e'⟩
      · exact .inl e
      · exact .inr (.inl e)
      · exact .inr (.inr ⟨e, by omega⟩)
    · simp at e; subst e; exact .inr (.inr ⟨rfl, Int.le_refl _⟩)
  · rcases List.mem_append.1 hr with e | e
    · exact h4 r e
    · simp at e; subst e; exact show (0 : Nat) ≤ 2000000 by omega
  · by_cases e : x < f
    · exact cov_mono (h6 x x1 e) _
    · exact ⟨gapRow ((k : Int) + 1) f d, List.mem_append.2 (.inr (List.mem_singleton.2 rfl)), (hit_iff _ _ _).2 ⟨rfl, by rw [show (gapRow ((k : Int) + 1) f d).pl = (⟨#[]⟩ : ByteArray) from rfl, ByteArray.toList_eq], by show f ≤ x; omega, x2⟩⟩
theorem MidInv.next {rs0 rs : List TR} {k : Nat} {d : Int} (h : MidInv rs0 rs k d) (hd : d < 200) (hc : cov rs ((k : Int) + 1) d) : MidInv rs0 rs k (d + 1) := by
  obtain ⟨h1, h2, h3, h4, h5, ⟨q1, q2⟩, h6⟩ := h
  have := later0_mono rs0 ((k : Int) + 1) (show d + 1 ≤ d + 1 + 1 by omega)
  refine ⟨h1, ?_, fun r hr => ?_, h4, h5, ⟨by omega, by omega⟩, fun x x1 x2 => ?_⟩
  · rw [if_pos (by omega)] at h2; split <;> omega
  · rcases h3 r hr with e | e | ⟨e, e'⟩
    · exact .inl e
    · exact .inr (.inl e)
    · exact .inr (.inr ⟨e, by omega⟩)
  · by_cases e : x = d
    · subst e; exact hc
    · exact h6 x x1 (by omega)
theorem MidInv.done {rs0 rs : List TR} {k : Nat} {d : Int} (h : MidInv rs0 rs k d) (hc : d = 200 ∨ ¬ cov rs ((k : Int) + 1) d) : DayInv rs0 rs k d (d + 1) := by
  obtain ⟨h1, h2, h3, h4, h5, ⟨q1, q2⟩, h6⟩ := h
  refine ⟨h1, h2, h3, h4, h5, ⟨q1, by omega, by omega, by omega⟩, h6, fun x x1 x2 x3 => ?_⟩
  obtain rfl : x = d := by omega
  rcases hc with e | e
  · omega
  · exact e
theorem DayInv.end {rs0 rs : List TR} {k : Nat} {f : Int} (h : DayInv rs0 rs k f 201) : ClsInv rs0 rs (k + 1) := by
  obtain ⟨h1, h2, h3, h4, h5, ⟨q1, q2, q3, q4⟩, h6, h7⟩ := h
  have hf := q4 (by omega)
  refine ⟨h1, by rw [if_neg (by omega)] at h2; omega, fun r hr => ?_, h4, fun c c1 c2 d d1 d2 => ?_⟩
  · rcases h3 r hr with e | e | ⟨e, e'⟩
    · exact .inl e
    · exact .inr (by omega)
    · exact .inr (by omega)
  · by_cases e : c ≤ (k : Int)
    · exact h5 c c1 e d d1 d2
    · obtain rfl : c = (k : Int) + 1 := by omega
      exact h6 d d1 (by omega)
theorem ClsInv.first {rs : List TR} (h : trAll rs = true) (hl : rs.length ≤ 9) (hd : ∀ r ∈ rs, DrRow r) : ClsInv rs rs 0 :=
  ⟨h, by omega, fun r hr => .inl hr, fun r hr => (hd r hr).ok, fun c c1 c2 => by omega⟩
end Go.Proofs.Ytoaimjocphfcaaa
