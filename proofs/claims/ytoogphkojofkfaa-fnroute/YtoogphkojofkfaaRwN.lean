/-
  No route is back ahead of the bound: mathematics of the search that ends there.
-/
import Derived.Test.YtoogphkojofkfaaRwM
namespace Go.Proofs.Ytoogphkojofkfaa
open Go.ChangeShapes Go.WideShapes Go.ChangeAt Go.RowKit Go.Joins Go.Deep
set_option linter.unusedVariables false

theorem foldl_max_le (f : RHp → Int) (X : Int) : ∀ (l : List RHp) (m : Int), m ≤ X → (∀ s ∈ l, f s ≤ X) → l.foldl (fun m s => max m (f s)) m ≤ X
  | [], m, h, _ => h
  | s :: l, m, h, hs => foldl_max_le f X l _ (by have := hs s (by simp); show max m (f s) ≤ X; omega) (fun t ht => hs t (List.mem_cons_of_mem _ ht))
def sumR (f : Nat → Int) : Nat → Int
  | 0 => 0
  | n + 1 => sumR f n + f n
theorem sumR_add (f g : Nat → Int) (p : Nat) (x : Int) (h : ∀ i, g i = f i + if i = p then x else 0) : ∀ n, sumR g n = sumR f n + if p < n then x else 0
  | 0 => by simp [sumR]
  | n + 1 => by
    unfold sumR
    rw [sumR_add f g p x h n, h n]
    by_cases h1 : p < n
    · rw [if_pos h1, if_neg (by omega), if_pos (by omega)]; omega
    · by_cases h2 : n = p
      · rw [if_neg h1, if_pos h2, if_pos (by omega)]; omega
      · rw [if_neg h1, if_neg h2, if_neg (by omega)]; omega
theorem sumR_congr (f g : Nat → Int) : ∀ n, (∀ i, i < n → f i = g i) → sumR f n = sumR g n
  | 0, _ => rfl
  | n + 1, h => by
    unfold sumR
    rw [sumR_congr f g n (fun i hi => h i (by omega)), h n (by omega)]
/-- What those that are in P come to. -/
def inF (f : Nat → Int) (P : List Int) (i : Nat) : Int := if hasI P (i : Int) = true then f i else 0
theorem inF_snoc {f : Nat → Int} {P : List Int} {p : Nat} (hp : hasI P (p : Int) = false) (i : Nat) : inF f (P ++ [(p : Int)]) i = inF f P i + if i = p then f p else 0 := by
  unfold inF
  rw [hasI_snoc]
  by_cases h : i = p
  · subst h
    rw [hp]
    simp
  · cases hasI P (i : Int) <;> simp [h]
theorem inF_sum {f : Nat → Int} {P : List Int} {p n : Nat} (hp : hasI P (p : Int) = false) (hn : p < n) : sumR (inF f (P ++ [(p : Int)])) n = sumR (inF f P) n + f p := by
  rw [sumR_add (inF f P) _ p (f p) (fun i => inF_snoc hp i) n, if_pos hn]
/-- An order of places below n, each once. -/
inductive OrdN (n : Nat) : List Int → Prop
  | nil : OrdN n []
  | snoc {L : List Int} {i : Nat} (h : OrdN n L) (hi : i < n) (hn : hasI L (i : Int) = false) : OrdN n (L ++ [(i : Int)])
theorem hasI_nil (d : Int) : hasI [] d = false := rfl
theorem inF_nil (f : Nat → Int) : ∀ n, sumR (inF f []) n = 0
  | 0 => rfl
  | n + 1 => by unfold sumR; rw [inF_nil f n]; rfl
theorem OrdN.count {n : Nat} {L : List Int} (h : OrdN n L) : sumR (inF (fun _ => 1) L) n = (L.length : Int) := by
  induction h with
  | nil => exact inF_nil _ n
  | snoc h hi hn ih => rw [inF_sum hn hi, ih]; simp
theorem sumR_le (f : Nat → Int) (h : ∀ i, f i ≤ 1) : ∀ n, sumR f n ≤ (n : Int)
  | 0 => Int.le_refl _
  | n + 1 => by
    unfold sumR
    have := sumR_le f h n
    have := h n
    omega
theorem sumR_gap (f : Nat → Int) (h : ∀ i, f i ≤ 1) (j : Nat) (hj : f j = 0) : ∀ n, j < n → sumR f n < (n : Int)
  | n + 1, hn => by
    unfold sumR
    by_cases e : n = j
    · have := sumR_le f h n
      rw [e] at *
      rw [hj]
      omega
    · have := sumR_gap f h j hj n (by omega)
      have := h n
      omega
theorem OrdN.full {n : Nat} {L : List Int} (h : OrdN n L) (hl : L.length = n) (i : Nat) (hi : i < n) : hasI L (i : Int) = true := by
  cases hh : hasI L (i : Int) with
  | true => rfl
  | false =>
    have h1 := h.count
    have h2 := sumR_gap (inF (fun _ => 1) L) (fun j => by unfold inF; split <;> simp) i (by unfold inF; rw [hh]; simp) n hi
    omega
theorem syN_snoc (l : List RHp) (s : RHp) : syN (l ++ [s]) = syN l + s.sy := by unfold syN; rw [List.foldl_append]; rfl
theorem syN_sum (rs : List RHp) : ∀ n, n ≤ rs.length → syN (rs.take n) = sumR (fun i => (rs.getD i zHp).sy) n
  | 0, _ => rfl
  | n + 1, h => by
    rw [take_getD (by omega), syN_snoc, syN_sum rs n (by omega)]
    rfl
theorem farH_sym (a c : RHp) : farH a c = farH c a := by unfold farH apN; omega
/-- In the midst of a trip: how late it is at least. -/
structure TrL (rs : List RHp) (b : Int) (P : List Int) (t : Trp) : Prop where
  be : b + farH zHp t.h ≤ t.lv
  sy : b + sumR (inF (fun i => (rs.getD i zHp).sy) P) rs.length + farH zHp t.h ≤ t.lv
  un : ∀ i, i < rs.length → hasI P (i : Int) = true → leT b (rs.getD i zHp) ≤ endT t ∧ b + sumR (inF (fun i => (rs.getD i zHp).sy) P) rs.length + 2 * farH (rs.getD i zHp) zHp ≤ endT t
theorem trL {rs : List RHp} (hs : hpsB rs = true) (b : Int) {L : List Int} (h : OrdN rs.length L) : TrL rs b L (trp rs b L) := by
  induction h with
  | nil =>
    have hz : farH zHp zHp = 0 := by decide
    refine ⟨?_, ?_, fun i _ h => by rw [hasI_nil] at h; cases h⟩
    · show b + farH zHp zHp ≤ b
      omega
    · rw [inF_nil]
      show b + 0 + farH zHp zHp ≤ b
      omega
  | @snoc L p h hp hn ih =>
    rw [trp_snoc]
    have hmono := endT_step hs (trp rs b L) (p : Int)
    have hsum := inF_sum (f := fun i => (rs.getD i zHp).sy) hn hp
    have e : stepT rs (trp rs b L) (p : Int) = ⟨lvN (trp rs b L).lv (trp rs b L).h (rs.getD p zHp), wtN (trp rs b L).wt (trp rs b L).lv (trp rs b L).h (rs.getD p zHp), rs.getD p zHp, (trp rs b L).A ++ [arN (trp rs b L).lv (trp rs b L).h (rs.getD p zHp)], (trp rs b L).ok && decide (arN (trp rs b L).lv (trp rs b L).h (rs.getD p zHp) ≤ (rs.getD p zHp).to)⟩ := by unfold stepT; rw [Int.toNat_natCast]
    have hsy := (hp_facts (getD_ok hs p)).2.2.2.2.2
    have hbe := ih.be
    have hsy2 := ih.sy
    have t1 := farH_tri zHp (trp rs b L).h (rs.getD p zHp)
    have t2 := farH_tri (trp rs b L).h (rs.getD p zHp) zHp
    have t3 := farH_sym (rs.getD p zHp) zHp
    have hun := ih.un
    rw [e] at hmono ⊢
    generalize trp rs b L = t at *
    obtain ⟨lv, wt, hh, A, ok⟩ := t
    unfold endT at hmono hun
    dsimp only at *
    obtain ⟨ln, hln⟩ : ∃ ln, lvN lv hh (rs.getD p zHp) = ln := ⟨_, rfl⟩
    have hl2 : ln = max (lv + farH hh (rs.getD p zHp)) (rs.getD p zHp).fr + (rs.getD p zHp).sy := hln.symm
    rw [hln] at hmono ⊢
    refine ⟨?_, ?_, fun i hi hmem => ?_⟩
    · dsimp only; omega
    · rw [hsum]; dsimp only; omega
    · rw [hsum]
      unfold endT
      dsimp only
      by_cases hip : i = p
      · subst hip
        refine ⟨?_, ?_⟩
        · have hlt : leT b (rs.getD i zHp) = max (b + farH zHp (rs.getD i zHp)) (rs.getD i zHp).fr + (rs.getD i zHp).sy + farH (rs.getD i zHp) zHp := rfl
          rw [hlt]
          omega
        · omega
      · rw [hasI_snoc, decide_eq_false hip, Bool.or_false] at hmem
        obtain ⟨u1, u2⟩ := hun i hi hmem
        exact ⟨by omega, by omega⟩
/-- A route that has been to all is back no earlier than the bound. -/
theorem leN_le {rs : List RHp} (hs : hpsB rs = true) (b : Int) {L : List Int} (h : OrdN rs.length L) (hl : L.length = rs.length) : leN b rs ≤ enR rs b L := by
  have ht := trL hs b h
  have hsum : sumR (inF (fun i => (rs.getD i zHp).sy) L) rs.length = syN rs := by
    have e := syN_sum rs rs.length (Nat.le_refl _)
    rw [List.take_length] at e
    rw [e]
    refine sumR_congr _ _ _ (fun i hi => ?_)
    unfold inF
    rw [if_pos (h.full hl i hi)]
  have hall : ∀ s ∈ rs, leT b s ≤ enR rs b L ∧ b + syN rs + 2 * farH s zHp ≤ enR rs b L := fun s hm => by
    obtain ⟨i, hi, rfl⟩ := List.getElem_of_mem hm
    have := ht.un i hi (h.full hl i hi)
    rw [hsum] at this
    rw [List.getD_eq_getElem?_getD, List.getElem?_eq_getElem hi] at this
    exact this
  have hf0 : ∀ (a c : RHp), 0 ≤ farH a c := fun a c => by unfold farH apN; omega
  have h1 := ht.be
  have h2 := ht.sy
  rw [hsum] at h2
  have k1 := hf0 zHp (trp rs b L).h
  have k2 := hf0 (trp rs b L).h zHp
  have hE : enR rs b L = (trp rs b L).lv + farH (trp rs b L).h zHp := rfl
  have hA : leA b rs ≤ enR rs b L := foldl_max_le _ _ rs b (by omega) (fun s hm => (hall s hm).1)
  have hF : faN rs ≤ (enR rs b L - b - syN rs) / 2 := foldl_max_le _ _ rs 0 (by omega) (fun s hm => by have := (hall s hm).2; omega)
  unfold leN
  omega
/-- Behind a route that is back at the bound nothing is kept. -/
theorem tyR_bound {rs : List RHp} (hs : hpsB rs = true) (b : Int) {o : List Int} (ho : enR rs b o ≤ leN b rs) : ∀ (k : Nat) (L : List Int), OrdN rs.length L → L.length + k = rs.length → tyR rs b k L (some o) = some o
  | 0, L, h, hl => by
    cases hk : (trp rs b L).ok
    · exact tyR_late hk
    · rw [tyR_end hk, updR_ge (by have := leN_le hs b h (by omega); omega)]
  | k + 1, L, h, hl => by
    cases hk : (trp rs b L).ok
    · exact tyR_late hk
    · rw [tyR_more hk]
      have key : ∀ m, m ≤ rs.length → stR rs b k L (some o) m = some o := by
        intro m
        induction m with
        | zero => intro _; rfl
        | succ m ih =>
          intro hm
          cases hh : hasI L (m : Int)
          · rw [stR_take hh, ih (by omega)]
            exact tyR_bound hs b ho k _ (.snoc h (by omega) hh) (by simp; omega)
          · rw [stR_skip hh, ih (by omega)]
      exact key _ (Nat.le_refl _)
/-- The same, in the midst of the places. -/
theorem stR_bound {rs : List RHp} (hs : hpsB rs = true) {b : Int} {o : List Int} (ho : enR rs b o ≤ leN b rs) {k : Nat} {L : List Int} (h : OrdN rs.length L) (hl : L.length + (k + 1) = rs.length) {B : Option (List Int)} {m : Nat} (hm : stR rs b k L B m = some o) : ∀ j, m + j ≤ rs.length → stR rs b k L B (m + j) = some o
  | 0, _ => hm
  | j + 1, hj => by
    have ih := stR_bound hs ho h hl hm j (by omega)
    rw [← Nat.add_assoc]
    cases hh : hasI L ((m + j : Nat) : Int)
    · rw [stR_take hh, ih]
      exact tyR_bound hs b ho k _ (.snoc h (by omega) hh) (by simp; omega)
    · rw [stR_skip hh, ih]
/-- Where a try of the next place ends the search, the whole try does. -/
theorem tyR_ends {rs : List RHp} (hs : hpsB rs = true) {b : Int} {o : List Int} (ho : enR rs b o ≤ leN b rs) {k : Nat} {L : List Int} (h : OrdN rs.length L) (hl : L.length + (k + 1) = rs.length) (hok : (trp rs b L).ok = true) {B : Option (List Int)} {m : Nat} (hm : m < rs.length) (hh : hasI L (m : Int) = false) (ht : tyR rs b k (L ++ [(m : Int)]) (stR rs b k L B m) = some o) : tyR rs b (k + 1) L B = some o := by
  rw [tyR_more hok]
  have := stR_bound hs ho h hl (B := B) (m := m + 1) (by rw [stR_take hh]; exact ht) (rs.length - (m + 1)) (by omega)
  rwa [show m + 1 + (rs.length - (m + 1)) = rs.length by omega] at this
end Go.Proofs.Ytoogphkojofkfaa
