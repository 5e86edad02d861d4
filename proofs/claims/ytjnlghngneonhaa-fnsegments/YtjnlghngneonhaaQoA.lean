/-
  The odds of several days, as mathematics: all cases of one day more; their sum and their mean; nothing of the program is in it.
-/
import Derived.Test.YtjnlghngneonhaaQsA
namespace Go.Proofs.Ytjnlghngneonhaa
set_option linter.unusedVariables false

def sN (f : Nat → Int) : Nat → Int
  | 0 => 0
  | n + 1 => sN f n + f n
def wN (f : Nat → Int) : Nat → Int
  | 0 => 0
  | n + 1 => wN f n + (n : Int) * f n
/-- What a row f is when x has met the first j of a table, from place k on. -/
def adR (x : Int) (tb : Nat → Int) (k : Nat) (f : Nat → Int) : Nat → Nat → Int
  | 0 => f
  | j + 1 => fun i => if i = k + j then adR x tb k f j (k + j) + x * tb j else adR x tb k f j i
/-- .. when the first k of od have met the whole table. -/
def cvR (od tb : Nat → Int) (m : Nat) : Nat → Nat → Int
  | 0 => fun _ => 0
  | k + 1 => adR (od k) tb k (cvR od tb m k) m
def gF (L : List Int) (i : Nat) : Int := L.getD i 0
def cvL (od tb : List Int) : List Int := (List.range (od.length + tb.length - 1)).map (cvR (gF od) (gF tb) tb.length od.length)
def odD (tb : List Int) : Nat → List Int
  | 0 => [1]
  | d + 1 => cvL (odD tb d) tb
def sL (L : List Int) : Int := sN (gF L) L.length
def wL (L : List Int) : Int := wN (gF L) L.length

theorem sN_congr {f g : Nat → Int} : ∀ {n : Nat}, (∀ i, i < n → f i = g i) → sN f n = sN g n
  | 0, _ => rfl
  | n + 1, h => by rw [sN, sN, sN_congr (fun i hi => h i (by omega)), h n (by omega)]
theorem wN_congr {f g : Nat → Int} : ∀ {n : Nat}, (∀ i, i < n → f i = g i) → wN f n = wN g n
  | 0, _ => rfl
  | n + 1, h => by rw [wN, wN, wN_congr (fun i hi => h i (by omega)), h n (by omega)]
theorem sN_upd {f : Nat → Int} {p : Nat} (v : Int) : ∀ {n : Nat}, p < n → sN (fun i => if i = p then v else f i) n = sN f n + v - f p
  | n + 1, h => by
    rw [sN, sN]
    by_cases e : p = n
    · subst e
      rw [if_pos rfl, sN_congr (g := f) (fun i hi => if_neg (by omega))]; omega
    · rw [sN_upd v (by omega), if_neg (by omega)]; omega
theorem wN_upd {f : Nat → Int} {p : Nat} (v : Int) : ∀ {n : Nat}, p < n → wN (fun i => if i = p then v else f i) n = wN f n + (p : Int) * v - (p : Int) * f p
  | n + 1, h => by
    rw [wN, wN]
    by_cases e : p = n
    · subst e
      rw [if_pos rfl, wN_congr (g := f) (fun i hi => if_neg (by omega))]; omega
    · rw [wN_upd v (by omega), if_neg (by omega)]; omega
theorem sN_zero : ∀ n, sN (fun _ => 0) n = 0
  | 0 => rfl
  | n + 1 => by rw [sN, sN_zero n]; rfl
theorem wN_zero : ∀ n, wN (fun _ => 0) n = 0
  | 0 => rfl
  | n + 1 => by rw [wN, wN_zero n]; simp
theorem sN_nonneg {f : Nat → Int} (h : ∀ i, 0 ≤ f i) : ∀ n, 0 ≤ sN f n
  | 0 => Int.le_refl _
  | n + 1 => by rw [sN]; have := sN_nonneg h n; have := h n; omega
theorem sN_mono {f : Nat → Int} (h : ∀ i, 0 ≤ f i) {k : Nat} : ∀ {n : Nat}, k ≤ n → sN f k ≤ sN f n
  | 0, hk => by obtain rfl : k = 0 := by omega
                exact Int.le_refl _
  | n + 1, hk => by
    by_cases e : k = n + 1
    · subst e; exact Int.le_refl _
    · have := sN_mono h (k := k) (n := n) (by omega); rw [sN]; have := h n; omega
theorem sN_at {f : Nat → Int} (h : ∀ i, 0 ≤ f i) {p n : Nat} (hp : p < n) : f p ≤ sN f n := by
  have h1 := sN_mono h (k := p + 1) (n := n) hp
  rw [sN] at h1
  have := sN_nonneg h p
  omega
theorem sN_ad (x : Int) (tb : Nat → Int) (k : Nat) (f : Nat → Int) {n : Nat} : ∀ {j : Nat}, k + j ≤ n → sN (adR x tb k f j) n = sN f n + x * sN tb j
  | 0, _ => by simp [adR, sN]
  | j + 1, h => by
    rw [adR, sN_upd _ (by omega), sN_ad x tb k f (by omega), sN, Int.mul_add]; omega
theorem wN_ad (x : Int) (tb : Nat → Int) (k : Nat) (f : Nat → Int) {n : Nat} : ∀ {j : Nat}, k + j ≤ n → wN (adR x tb k f j) n = wN f n + x * ((k : Int) * sN tb j + wN tb j)
  | 0, _ => by simp [adR, sN, wN]
  | j + 1, h => by
    rw [adR, wN_upd _ (by omega), wN_ad x tb k f (by omega), sN, wN]
    generalize adR x tb k f j (k + j) = a
    generalize tb j = b
    generalize sN tb j = c
    generalize wN tb j = d
    have e : ((k + j : Nat) : Int) = (k : Int) + (j : Int) := by omega
    rw [e]
    simp only [Int.mul_add, Int.add_mul]
    have e1 : (k : Int) * (x * b) = x * ((k : Int) * b) := by rw [Int.mul_left_comm]
    have e2 : (j : Int) * (x * b) = x * ((j : Int) * b) := by rw [Int.mul_left_comm]
    rw [e1, e2]
    omega
theorem sN_cv (od tb : Nat → Int) (m : Nat) {n : Nat} : ∀ {k : Nat}, (k = 0 ∨ k - 1 + m ≤ n) → sN (cvR od tb m k) n = sN od k * sN tb m
  | 0, _ => by rw [cvR, sN_zero, sN, Int.zero_mul]
  | k + 1, h => by
    rw [cvR, sN_ad _ _ _ _ (by omega), sN_cv od tb m (by omega), sN, Int.add_mul]
theorem wN_cv (od tb : Nat → Int) (m : Nat) {n : Nat} : ∀ {k : Nat}, (k = 0 ∨ k - 1 + m ≤ n) → wN (cvR od tb m k) n = wN od k * sN tb m + sN od k * wN tb m
  | 0, _ => by rw [cvR, wN_zero]; simp [sN, wN]
  | k + 1, h => by
    rw [cvR, wN_ad _ _ _ _ (by omega), wN_cv od tb m (by omega), sN, wN]
    generalize od k = x
    generalize sN tb m = T
    generalize wN tb m = M
    generalize sN od k = s
    generalize wN od k = u
    simp only [Int.mul_add, Int.add_mul]
    have e1 : x * ((k : Int) * T) = (k : Int) * x * T := by rw [Int.mul_left_comm, Int.mul_assoc]
    rw [e1]
    omega
theorem ad_nonneg {x : Int} {tb : Nat → Int} {k : Nat} {f : Nat → Int} (hx : 0 ≤ x) (ht : ∀ i, 0 ≤ tb i) (hf : ∀ i, 0 ≤ f i) : ∀ j i, 0 ≤ adR x tb k f j i
  | 0, i => hf i
  | j + 1, i => by
    rw [adR]
    dsimp only
    have h1 := ad_nonneg (k := k) hx ht hf j (k + j)
    have h2 := ad_nonneg (k := k) hx ht hf j i
    have h3 := Int.mul_nonneg hx (ht j)
    split <;> omega
theorem cv_nonneg {od tb : Nat → Int} {m : Nat} (ho : ∀ i, 0 ≤ od i) (ht : ∀ i, 0 ≤ tb i) : ∀ k i, 0 ≤ cvR od tb m k i
  | 0, i => Int.le_refl _
  | k + 1, i => ad_nonneg (ho k) ht (cv_nonneg ho ht k) m i
/-- Whatever cell, whenever: no more than all cases in the end. -/
theorem cell_bound {od tb : Nat → Int} {m n l k j : Nat} (ho : ∀ i, 0 ≤ od i) (ht : ∀ i, 0 ≤ tb i) (hk : k < l) (hj : j ≤ m) (hn : l - 1 + m = n) (p : Nat) (hp : p < n) :
    0 ≤ adR (od k) tb k (cvR od tb m k) j p ∧ adR (od k) tb k (cvR od tb m k) j p ≤ sN od l * sN tb m := by
  have h0 := ad_nonneg (k := k) (ho k) ht (cv_nonneg (m := m) ho ht k) j
  refine ⟨h0 p, ?_⟩
  have h1 := sN_at h0 hp
  rw [sN_ad _ _ _ _ (by omega), sN_cv od tb m (by omega)] at h1
  have h2 : od k * sN tb j ≤ od k * sN tb m := Int.mul_le_mul_of_nonneg_left (sN_mono ht hj) (ho k)
  have h3 : sN od (k + 1) * sN tb m ≤ sN od l * sN tb m := Int.mul_le_mul_of_nonneg_right (sN_mono ho hk) (sN_nonneg ht m)
  rw [sN, Int.add_mul] at h3
  omega
theorem cvL_length (od tb : List Int) : (cvL od tb).length = od.length + tb.length - 1 := by simp [cvL]
theorem cvL_at (od tb : List Int) {i : Nat} (h : i < od.length + tb.length - 1) : gF (cvL od tb) i = cvR (gF od) (gF tb) tb.length od.length i := by simp [gF, cvL, List.getD_eq_getElem?_getD, h]
theorem sL_cv (od tb : List Int) (h0 : 1 ≤ od.length) : sL (cvL od tb) = sL od * sL tb := by
  unfold sL
  rw [cvL_length, sN_congr (fun i hi => cvL_at od tb hi), sN_cv _ _ _ (by omega)]
theorem wL_cv (od tb : List Int) (h0 : 1 ≤ od.length) : wL (cvL od tb) = wL od * sL tb + sL od * wL tb := by
  unfold wL sL
  rw [cvL_length, wN_congr (fun i hi => cvL_at od tb hi), wN_cv _ _ _ (by omega)]
theorem gF_nonneg {L : List Int} (h : ∀ x ∈ L, 0 ≤ x) (i : Nat) : 0 ≤ gF L i := by
  unfold gF
  by_cases hi : i < L.length
  · have e : L.getD i 0 = L[i] := by simp [List.getD_eq_getElem?_getD, hi]
    rw [e]; exact h _ (List.getElem_mem _)
  · rw [List.getD_eq_getElem?_getD, List.getElem?_eq_none (by omega)]; exact Int.le_refl _
theorem cvL_nonneg {od tb : List Int} (ho : ∀ x ∈ od, 0 ≤ x) (ht : ∀ x ∈ tb, 0 ≤ x) : ∀ x ∈ cvL od tb, 0 ≤ x := by
  intro x hx
  unfold cvL at hx
  rw [List.mem_map] at hx
  obtain ⟨i, _, rfl⟩ := hx
  exact cv_nonneg (gF_nonneg ho) (gF_nonneg ht) _ _
theorem odD_nonneg {tb : List Int} (ht : ∀ x ∈ tb, 0 ≤ x) : ∀ d, ∀ x ∈ odD tb d, 0 ≤ x
  | 0 => by intro x hx; simp [odD] at hx; omega
  | d + 1 => cvL_nonneg (odD_nonneg ht d) ht
theorem odD_length {tb : List Int} (ht : 1 ≤ tb.length) : ∀ d, (odD tb d).length = d * (tb.length - 1) + 1
  | 0 => by simp [odD]
  | d + 1 => by
    rw [odD, cvL_length, odD_length ht d, Nat.add_mul]; omega
def bnd : Nat → Int
  | 0 => 1
  | d + 1 => bnd d * 390
theorem bnd_pos : ∀ d, 0 ≤ bnd d
  | 0 => by decide
  | d + 1 => Int.mul_nonneg (bnd_pos d) (by decide)
theorem sL_table {tb : List Int} (h : alB 0 30 tb = true) (hl : tb.length ≤ 13) : 0 ≤ sL tb ∧ sL tb ≤ 390 := by
  have hm := al_mem h
  have h0 := gF_nonneg (fun x hx => (hm x hx).1)
  have hb : ∀ n, sN (gF tb) n ≤ 30 * (n : Int) := fun n => by
    induction n with
    | zero => exact Int.le_refl _
    | succ n ih =>
      rw [sN]
      have : gF tb n ≤ 30 := (al_getD h (by omega) n).2
      omega
  have := hb tb.length
  exact ⟨sN_nonneg h0 _, by unfold sL; omega⟩
/-- All cases of d days are those of one as many times. -/
def pwI (t : Int) : Nat → Int
  | 0 => 1
  | d + 1 => pwI t d * t
theorem sL_od {tb : List Int} (hl : 1 ≤ tb.length) : ∀ d, sL (odD tb d) = pwI (sL tb) d
  | 0 => by simp [odD, sL, sN, gF, pwI]
  | d + 1 => by rw [odD, sL_cv _ _ (by rw [odD_length hl]; omega), sL_od hl d, pwI]
theorem pw_bound {t : Int} (h0 : 0 ≤ t) (h1 : t ≤ 390) : ∀ d, 0 ≤ pwI t d ∧ pwI t d ≤ bnd d
  | 0 => by simp [pwI, bnd]
  | d + 1 => by
    have i := pw_bound h0 h1 d
    rw [pwI, bnd]
    refine ⟨Int.mul_nonneg i.1 h0, ?_⟩
    have a1 : pwI t d * t ≤ pwI t d * 390 := Int.mul_le_mul_of_nonneg_left h1 i.1
    omega
theorem bnd_five : ∀ d, d ≤ 5 → bnd d ≤ 9022419900000
  | 0, _ => by decide
  | 1, _ => by decide
  | 2, _ => by decide
  | 3, _ => by decide
  | 4, _ => by decide
  | 5, _ => by decide
  | d + 6, h => by omega
/-- Their mean is that of a day as many times. -/
theorem wL_od {tb : List Int} (hl : 1 ≤ tb.length) : ∀ d, wL (odD tb d) * sL tb = (d : Int) * wL tb * pwI (sL tb) d
  | 0 => by simp [odD, wL, wN, gF]
  | d + 1 => by
    have i := wL_od hl d
    rw [odD, wL_cv _ _ (by rw [odD_length hl]; omega), sL_od hl d, pwI, Int.add_mul, i]
    generalize wL tb = M
    generalize sL tb = T
    generalize pwI T d = P
    have e : ((d + 1 : Nat) : Int) = (d : Int) + 1 := by omega
    rw [e, Int.add_mul, Int.add_mul, Int.one_mul]
    have e1 : (d : Int) * M * P * T = (d : Int) * M * (P * T) := by rw [Int.mul_assoc]
    have e2 : P * M * T = M * (P * T) := by rw [Int.mul_comm P M, Int.mul_assoc]
    rw [e1, e2]
/-- What Odds answers. -/
def tbB (tb : List Int) : Bool := inB (tb.length : Int) 1 13 && alB 0 30 tb
def odB (tb : List Int) (days : Int) : Bool := tbB tb && inB days 1 5
def odC (tb : List Int) (days : Int) : Int := if 4096 < tb.length then 2 else if odB tb days = true then 0 else 1
def odL (tb : List Int) (days : Int) : List Int := if odC tb days = 0 then odD tb days.toNat else []
theorem od_ways (tb : List Int) (days : Int) : (4096 < tb.length ∧ odC tb days = 2 ∧ odL tb days = []) ∨ (¬ 4096 < tb.length ∧ odB tb days = false ∧ odC tb days = 1 ∧ odL tb days = []) ∨
    (¬ 4096 < tb.length ∧ odB tb days = true ∧ odC tb days = 0 ∧ odL tb days = odD tb days.toNat) := by
  unfold odL odC
  by_cases h : 4096 < tb.length
  · exact .inl ⟨h, by rw [if_pos h], by rw [if_pos h]; rfl⟩
  · cases hb : odB tb days
    · exact .inr (.inl ⟨h, rfl, by rw [if_neg h]; rfl, by rw [if_neg h]; rfl⟩)
    · exact .inr (.inr ⟨h, rfl, by rw [if_neg h]; rfl, by rw [if_neg h]; rfl⟩)
structure OdR (tb : List Int) (days : Int) : Prop where
  l1 : 1 ≤ tb.length
  l2 : tb.length ≤ 13
  al : alB 0 30 tb = true
  d1 : 1 ≤ days
  d2 : days ≤ 5
theorem od_right {tb : List Int} {days : Int} (h : odB tb days = true) : OdR tb days := by
  unfold odB tbB inB at h
  simp only [Bool.and_eq_true, decide_eq_true_eq] at h
  exact ⟨by omega, by omega, h.1.2, h.2.1, h.2.2⟩
theorem od_len_le {tb : List Int} {d : Nat} (h : 1 ≤ tb.length) (h2 : tb.length ≤ 13) (hd : d ≤ 5) : 1 ≤ (odD tb d).length ∧ (odD tb d).length ≤ 61 := by
  rw [odD_length h]
  have : d * (tb.length - 1) ≤ 5 * 12 := Nat.mul_le_mul hd (by omega)
  omega
theorem od_le (tb : List Int) (days : Int) : (odL tb days).length ≤ 61 := by
  rcases od_ways tb days with ⟨_, _, h⟩ | ⟨_, _, _, h⟩ | ⟨_, hb, _, h⟩ <;> rw [h]
  · simp
  · simp
  · have r := od_right hb
    exact (od_len_le r.l1 r.l2 (by have := r.d2; omega)).2
end Go.Proofs.Ytjnlghngneonhaa
