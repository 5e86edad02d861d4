/-
  What holds of the book of drawn rows and lines. Nothing of the program is in it.
-/
import Derived.Test.YtoaimjocphfcaaaDrawTax5
import Derived.Test.YtoaimjocphfcaaaBookE
import Derived.Test.YtoaimjocphfcaaaTaxHX
namespace Go.Proofs.Ytoaimjocphfcaaa
set_option linter.unusedVariables false

def nth : ByteArray := ⟨#[110, 111, 114, 116, 104]⟩
theorem cov_row {rs : List TR} {c day : Int} (h : cov rs c day) (s : ByteArray) : ∃ r ∈ rs, rowFor rs c s day = some r := by
  unfold rowFor
  cases h1 : rs.find? (hit c s day) with
  | some r => exact ⟨r, List.mem_of_find?_eq_some h1, rfl⟩
  | none =>
    cases h2 : rs.find? (hit c ⟨#[]⟩ day) with
    | some r => exact ⟨r, List.mem_of_find?_eq_some h2, rfl⟩
    | none =>
      obtain ⟨r, hr, hh⟩ := h
      exact absurd hh (by simpa using List.find?_eq_none.1 h2 r hr)
theorem one_rate {r : TR} (h : trOne r = true) : rateB r.n r.d = true := by
  unfold trOne at h
  simp only [Bool.and_eq_true] at h
  exact h.2
theorem DrLine.ok {l : TL} (h : DrLine l) : tlOK l = true := by
  obtain ⟨⟨h1, h2⟩, h3, h4⟩ := h
  unfold tlOK
  rw [Bool.and_eq_true]
  exact ⟨decide_eq_true (by omega), (amtB_iff _).2 ⟨by omega, by omega⟩⟩
theorem sum_small (ls : List TL) (h : ∀ l ∈ ls, DrLine l) (c : Int) : -((ls.length : Int) * 4200) ≤ sumOf ls c ∧ sumOf ls c ≤ (ls.length : Int) * 4200 := by
  induction ls with
  | nil => simp [sumOf]
  | cons l ls ih =>
    obtain ⟨i1, i2⟩ := ih (fun x hx => h x (by simp [hx]))
    obtain ⟨_, a1, a2⟩ := h l (by simp)
    have e : sumOf (l :: ls) c = (if l.cl = c then l.gr else 0) + sumOf ls c := by simp [sumOf]
    rw [e, List.length_cons]
    split <;> (constructor <;> (push_cast; omega))
theorem cls_line {ls : List TL} {c : Int} (h : c ∈ cls ls) : ∃ l ∈ ls, l.cl = c := by
  have := (List.mem_filter.1 h).2
  obtain ⟨l, hl, he⟩ := List.any_eq_true.1 this
  exact ⟨l, hl, by simpa using he⟩
/-- The book of drawn rows and lines. -/
theorem drawn_book {rs : List TR} {ls : List TL} {day : Int} (htr : trAll rs = true) (hcov : ∀ c : Int, 1 ≤ c → c ≤ 3 → ∀ d, 0 ≤ d → d < 200 → cov rs c d) (hd : 0 ≤ day ∧ day < 200) (hl : ls.length ≤ 12) (hdl : ∀ l ∈ ls, DrLine l) :
    tbGo rs nth day ls = (bkL (sumOf ls) (tbT rs nth day ls) (cls ls), 0) ∧ (∀ c ∈ cls ls, (1 ≤ c ∧ c ≤ 3) ∧ (rowFor rs c nth day).isSome = true ∧ rateB (tbN rs nth day c) (tbD rs nth day c) = true) := by
  have h60 := ((trAll_iff rs).1 htr).1
  have hc : ∀ c ∈ cls ls, (1 ≤ c ∧ c ≤ 3) ∧ (rowFor rs c nth day).isSome = true ∧ rateB (tbN rs nth day c) (tbD rs nth day c) = true := fun c hc => by
    obtain ⟨l, hl1, rfl⟩ := cls_line hc
    obtain ⟨⟨c1, c2⟩, _⟩ := hdl l hl1
    obtain ⟨r, hr, he⟩ := cov_row (hcov l.cl c1 c2 day hd.1 hd.2) nth
    refine ⟨⟨c1, c2⟩, by rw [he]; rfl, ?_⟩
    unfold tbN tbD
    rw [he]
    exact one_rate (trAll_one htr r hr)
  refine ⟨?_, hc⟩
  have a1 : ls.any (fun l => !tlOK l) = false := by rw [List.any_eq_false]; intro l hl; simp [(hdl l hl).ok]
  have a2 : tbAll rs nth day (cls ls) = true := List.all_eq_true.2 fun c hcc => (hc c hcc).2.1
  have a3 : tbOK rs nth day ls (cls ls) = true := List.all_eq_true.2 fun c hcc => by
    unfold spOK
    rw [(hc c hcc).2.2, Bool.and_true]
    obtain ⟨b1, b2⟩ := sum_small ls hdl c
    exact (amtB_iff _).2 ⟨by omega, by omega⟩
  unfold tbGo
  rw [if_neg (by show ¬ (4096 < rs.length ∨ 65536 < nth.size ∨ 4096 < ls.length); have : nth.size = 5 := rfl; omega), if_neg (by rw [htr]; simp), if_neg (by rw [a1]; simp), if_neg (by rw [a2]; simp), if_pos a3]
theorem sumOf_reverse (ls : List TL) (c : Int) : sumOf ls.reverse c = sumOf ls c := by
  unfold sumOf; rw [List.map_reverse, List.sum_reverse]
theorem cls_reverse (ls : List TL) : cls ls.reverse = cls ls := by
  unfold cls hasCl; congr 1; funext c; rw [List.any_reverse]
theorem tbT_reverse (rs : List TR) (s : ByteArray) (day : Int) (ls : List TL) : tbT rs s day ls.reverse = tbT rs s day ls := by
  funext c; unfold tbT; rw [sumOf_reverse]
theorem bk_reverse (rs : List TR) (s : ByteArray) (day : Int) (ls : List TL) : bkL (sumOf ls.reverse) (tbT rs s day ls.reverse) (cls ls.reverse) = bkL (sumOf ls) (tbT rs s day ls) (cls ls) := by
  rw [tbT_reverse, cls_reverse, show sumOf ls.reverse = sumOf ls from funext (sumOf_reverse ls)]
/-- The tax lies within half a cent. -/
theorem tax_near (g n d : Int) (hR : rateB n d = true) : 2 * (spT g n d * (d + n) - g * n) ≤ d + n ∧ -(2 * (spT g n d * (d + n) - g * n)) ≤ d + n := by
  obtain ⟨⟨n1, n2⟩, d1, d2⟩ := (rateB_iff n d).mp hR
  have h1 := Int.emod_add_ediv_mul (g * n) (d + n)
  have h2 := Int.emod_nonneg (g * n) (b := d + n) (by omega)
  have h3 := Int.emod_lt_of_pos (g * n) (b := d + n) (by omega)
  unfold spT rq upB
  generalize g * n / (d + n) = q at *
  generalize g * n % (d + n) = r at *
  split
  · rename_i h
    have h := of_decide_eq_true h
    rw [Int.add_mul, Int.one_mul]
    omega
  · rename_i h
    have h : ¬ _ := fun x => h (decide_eq_true x)
    omega
/-- The classes rise. -/
theorem cls_rise (ls : List TL) (k : Nat) (h : k + 1 < (cls ls).length) : (cls ls).getD k 0 < (cls ls).getD (k + 1) 0 := by
  have hp : (cls ls).Pairwise (fun a b => a < b) := List.Pairwise.filter _ (by decide)
  have := List.pairwise_iff_getElem.1 hp k (k + 1) (by omega) h (by omega)
  simpa [List.getD_eq_getElem?_getD, show k < (cls ls).length by omega, h] using this
def total (ls : List TL) : Int := (ls.map TL.gr).sum
theorem sum_nine (ls : List TL) (h : ∀ l ∈ ls, DrLine l) : sumOf ls 1 + sumOf ls 2 + sumOf ls 3 = total ls := by
  induction ls with
  | nil => rfl
  | cons l ls ih =>
    have := ih (fun x hx => h x (by simp [hx]))
    obtain ⟨⟨c1, c2⟩, _⟩ := h l (by simp)
    have e : ∀ c, sumOf (l :: ls) c = (if l.cl = c then l.gr else 0) + sumOf ls c := fun c => by simp [sumOf]
    have e2 : total (l :: ls) = l.gr + total ls := by simp [total]
    rw [e, e, e, e2]
    rcases (by omega : l.cl = 1 ∨ l.cl = 2 ∨ l.cl = 3) with q | q | q <;> rw [q] <;> simp <;> omega
theorem sum_none {ls : List TL} {c : Int} (h : hasCl ls c = false) : sumOf ls c = 0 := by
  induction ls with
  | nil => rfl
  | cons l ls ih =>
    unfold hasCl at h ih
    rw [List.any_cons, Bool.or_eq_false_iff] at h
    have e : sumOf (l :: ls) c = (if l.cl = c then l.gr else 0) + sumOf ls c := by simp [sumOf]
    rw [e, if_neg (by simpa using h.1), ih h.2]; rfl
theorem cls_three {ls : List TL} (h : ∀ l ∈ ls, DrLine l) : cls ls = ([1, 2, 3] : List Int).filter (hasCl ls) := by
  have hn : ∀ c, 4 ≤ c → hasCl ls c = false := fun c hc => by
    unfold hasCl
    rw [List.any_eq_false]
    intro l hl
    obtain ⟨⟨c1, c2⟩, _⟩ := h l hl
    simp; omega
  unfold cls
  simp only [List.filter_cons, List.filter_nil, hn 4 (by omega), hn 5 (by omega), hn 6 (by omega), hn 7 (by omega), hn 8 (by omega), hn 9 (by omega)]
  simp
theorem sum_cls {ls : List TL} (h : ∀ l ∈ ls, DrLine l) : ((cls ls).map (sumOf ls)).sum = total ls := by
  rw [← sum_nine ls h, cls_three h]
  have z := fun c => @sum_none ls c
  cases h1 : hasCl ls 1 <;> cases h2 : hasCl ls 2 <;> cases h3 : hasCl ls 3 <;> simp [h1, h2, h3] <;> (try rw [z 1 h1]) <;> (try rw [z 2 h2]) <;> (try rw [z 3 h3]) <;> omega
theorem cls_sum_next (ls : List TL) (k : Nat) (h : k < (cls ls).length) : (((cls ls).take (k + 1)).map (sumOf ls)).sum = (((cls ls).take k).map (sumOf ls)).sum + sumOf ls ((cls ls).getD k 0) := by
  have e : (cls ls).getD k 0 = (cls ls)[k] := by simp [List.getD_eq_getElem?_getD, h]
  rw [e, List.take_succ_eq_append_getElem h, List.map_append, List.sum_append]; simp
theorem cls_sum_small {ls : List TL} (h : ∀ l ∈ ls, DrLine l) (hl : ls.length ≤ 12) : ∀ k : Nat, -((k : Int) * 50400) ≤ (((cls ls).take k).map (sumOf ls)).sum ∧ (((cls ls).take k).map (sumOf ls)).sum ≤ (k : Int) * 50400
  | 0 => by simp
  | k + 1 => by
    obtain ⟨i1, i2⟩ := cls_sum_small h hl k
    by_cases hk : k < (cls ls).length
    · rw [cls_sum_next ls k hk]
      obtain ⟨b1, b2⟩ := sum_small ls h ((cls ls).getD k 0)
      push_cast
      omega
    · rw [List.take_of_length_le (by omega)] at i1 i2 ⊢
      push_cast
      omega
theorem total_small {ls : List TL} (h : ∀ l ∈ ls, DrLine l) : -((ls.length : Int) * 4200) ≤ total ls ∧ total ls ≤ (ls.length : Int) * 4200 := by
  induction ls with
  | nil => simp [total]
  | cons l ls ih =>
    obtain ⟨i1, i2⟩ := ih (fun x hx => h x (by simp [hx]))
    obtain ⟨_, a1, a2⟩ := h l (by simp)
    have e2 : total (l :: ls) = l.gr + total ls := by simp [total]
    rw [e2, List.length_cons]
    push_cast
    omega
theorem total_next (ls : List TL) (k : Nat) (h : k < ls.length) : total (ls.take (k + 1)) = total (ls.take k) + (ls.getD k tl0).gr := by
  have e : ls.getD k tl0 = ls[k] := by simp [List.getD_eq_getElem?_getD, h]
  unfold total
  rw [e, List.take_succ_eq_append_getElem h, List.map_append, List.sum_append]; simp
theorem total_reverse (ls : List TL) : total ls.reverse = total ls := by unfold total; rw [List.map_reverse, List.sum_reverse]
theorem rev_getD (ls : List TL) (k : Nat) (h : k < ls.length) : ls.reverse.getD k tl0 = ls.getD (ls.length - 1 - k) tl0 := by
  rw [List.getD_eq_getElem?_getD, List.getD_eq_getElem?_getD, List.getElem?_reverse h]
theorem take_snoc (ls : List TL) (k : Nat) (h : k < ls.length) : ls.take (k + 1) = ls.take k ++ [ls.getD k tl0] := by
  have e : ls.getD k tl0 = ls[k] := by simp [List.getD_eq_getElem?_getD, h]
  rw [e, List.take_succ_eq_append_getElem h]
/-- The book's numbers at class k. -/
theorem bk_at (G T : Int → Int) (cs : List Int) (k : Nat) (h : k < cs.length) : (bkL G T cs).getD (k * 4) 0 = cs.getD k 0 ∧ (bkL G T cs).getD (k * 4 + 1) 0 = G (cs.getD k 0) ∧ (bkL G T cs).getD (k * 4 + 2) 0 = G (cs.getD k 0) - T (cs.getD k 0) ∧ (bkL G T cs).getD (k * 4 + 3) 0 = T (cs.getD k 0) := by
  refine ⟨?_, ?_, ?_, ?_⟩
  · rw [bkL_getD _ _ _ _ (by omega)]; unfold bkI; rw [if_pos (by omega), show k * 4 / 4 = k by omega]
  · rw [bkL_getD _ _ _ _ (by omega)]; unfold bkI; rw [if_neg (by omega), if_pos (by omega), show (k * 4 + 1) / 4 = k by omega]
  · rw [bkL_getD _ _ _ _ (by omega)]; unfold bkI; rw [if_neg (by omega), if_neg (by omega), if_pos (by omega), show (k * 4 + 2) / 4 = k by omega]
  · rw [bkL_getD _ _ _ _ (by omega)]; unfold bkI; rw [if_neg (by omega), if_neg (by omega), if_neg (by omega), show (k * 4 + 3) / 4 = k by omega]
end Go.Proofs.Ytoaimjocphfcaaa
