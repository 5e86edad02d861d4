/-
  Open days, the next one and all of a stretch, as mathematics; nothing of the program is in it.
-/
import Derived.Test.YtlkjpemhamemgaaQsA
namespace Go.Proofs.Ytlkjpemhamemgaa
open Go.ChangeShapes Go.WideShapes Go.ChangeAt Go.RowKit Go.Joins Go.Deep
set_option linter.unusedVariables false

/-- d is one of L. -/
def hasI (L : List Int) (d : Int) : Bool := L.contains d
/-- A day is open: the week's flag is set and it is no holiday. -/
def opB (wk : List Bool) (hs : List Int) (d : Int) : Bool := wk.getD (d % 7).toNat false && !hasI hs d
/-- The first of n days from s on that p holds of; s + n if there is none. -/
def nx (p : Int → Bool) (s : Int) : Nat → Int
  | 0 => s
  | n + 1 => if p s = true then s else nx p (s + 1) n
/-- Those of n days from s on that p holds of. -/
def dl (p : Int → Bool) (s : Int) : Nat → List Int
  | 0 => []
  | n + 1 => if p s = true then s :: dl p (s + 1) n else dl p (s + 1) n
theorem nx_yes {p : Int → Bool} {s : Int} {n : Nat} (h : p s = true) : nx p s (n + 1) = s := by rw [nx, if_pos h]
theorem nx_no {p : Int → Bool} {s : Int} {n : Nat} (h : p s = false) : nx p s (n + 1) = nx p (s + 1) n := by rw [nx, if_neg (by rw [h]; simp)]
theorem nx_range (p : Int → Bool) : ∀ (n : Nat) (s : Int), s ≤ nx p s n ∧ nx p s n ≤ s + n
  | 0, s => by simp [nx]
  | n + 1, s => by
    rw [nx]
    split
    · omega
    · have := nx_range p n (s + 1); omega
theorem dl_len (p : Int → Bool) : ∀ (n : Nat) (s : Int), (dl p s n).length ≤ n
  | 0, s => by simp [dl]
  | n + 1, s => by
    have := dl_len p n (s + 1)
    rw [dl]
    split
    · simp; omega
    · omega
theorem dl_add (p : Int → Bool) (b : Nat) : ∀ (a : Nat) (s : Int), dl p s (a + b) = dl p s a ++ dl p (s + a) b
  | 0, s => by simp [dl]
  | a + 1, s => by
    have ih := dl_add p b a (s + 1)
    have e : s + 1 + (a : Int) = s + ((a + 1 : Nat) : Int) := by omega
    rw [e] at ih
    rw [show a + 1 + b = (a + b) + 1 by omega, dl, dl, ih]
    split <;> simp
theorem dl_last (p : Int → Bool) (n : Nat) (s : Int) : dl p s (n + 1) = dl p s n ++ if p (s + n) = true then [s + (n : Int)] else [] := by
  rw [dl_add p 1 n s]
  rfl
theorem dl_yes {p : Int → Bool} {s : Int} {n : Nat} (h : p (s + n) = true) : dl p s (n + 1) = dl p s n ++ [s + (n : Int)] := by rw [dl_last, if_pos h]
theorem dl_no {p : Int → Bool} {s : Int} {n : Nat} (h : p (s + n) = false) : dl p s (n + 1) = dl p s n := by rw [dl_last, if_neg (by rw [h]; simp), List.append_nil]
/-- The first of them is the next one; behind it come those that follow. -/
theorem dl_nx (p : Int → Bool) : ∀ (n : Nat) (s : Int), dl p s n = if nx p s n < s + n then nx p s n :: dl p (nx p s n + 1) (s + n - nx p s n - 1).toNat else []
  | 0, s => by simp [dl, nx]
  | n + 1, s => by
    by_cases h : p s = true
    · rw [dl, if_pos h, nx_yes h, if_pos (by omega)]
      congr 2
      omega
    · have h' : p s = false := by simpa using h
      rw [dl, if_neg h, nx_no h', dl_nx p n (s + 1)]
      have e : s + 1 + (n : Int) = s + ((n + 1 : Nat) : Int) := by omega
      rw [e]
theorem dl_mem (p : Int → Bool) : ∀ (n : Nat) (s x : Int), x ∈ dl p s n → s ≤ x ∧ x < s + n ∧ p x = true
  | 0, s, x, h => by simp [dl] at h
  | n + 1, s, x, h => by
    rw [dl] at h
    split at h
    · next hp =>
      rcases List.mem_cons.1 h with rfl | h
      · exact ⟨by omega, by omega, hp⟩
      · obtain ⟨a, b, c⟩ := dl_mem p n (s + 1) x h; exact ⟨by omega, by omega, c⟩
    · obtain ⟨a, b, c⟩ := dl_mem p n (s + 1) x h; exact ⟨by omega, by omega, c⟩
theorem dl_rise (p : Int → Bool) : ∀ (n : Nat) (s : Int), (dl p s n).Pairwise (· < ·)
  | 0, s => by simp [dl]
  | n + 1, s => by
    rw [dl]
    split
    · exact List.pairwise_cons.2 ⟨fun x hx => by have := dl_mem p n (s + 1) x hx; omega, dl_rise p n (s + 1)⟩
    · exact dl_rise p n (s + 1)
theorem dl_getD {p : Int → Bool} {n : Nat} {s : Int} {i : Nat} (hi : i < (dl p s n).length) : s ≤ (dl p s n).getD i 0 ∧ (dl p s n).getD i 0 < s + n ∧ p ((dl p s n).getD i 0) = true := by
  have e : (dl p s n).getD i 0 = (dl p s n)[i] := by simp [List.getD_eq_getElem?_getD, hi]
  rw [e]
  exact dl_mem p n s _ (List.getElem_mem _)
theorem dl_up {p : Int → Bool} {n : Nat} {s : Int} {i : Nat} (h0 : 0 < i) (hi : i < (dl p s n).length) : (dl p s n).getD (i - 1) 0 < (dl p s n).getD i 0 := by
  have e : (dl p s n).getD i 0 = (dl p s n)[i] := by simp [List.getD_eq_getElem?_getD, hi]
  have e2 : (dl p s n).getD (i - 1) 0 = (dl p s n)[i - 1] := by simp [List.getD_eq_getElem?_getD, show i - 1 < (dl p s n).length by omega]
  rw [e, e2]
  exact List.pairwise_iff_getElem.1 (dl_rise p n s) (i - 1) i (by omega) hi (by omega)
/-- Rising: each number is greater than the one ahead; of the first k of them. -/
def rsN (L : List Int) : Nat → Bool
  | 0 => true
  | k + 1 => rsN L k && (decide (k = 0) || decide (L.getD (k - 1) 0 < L.getD k 0))
theorem rsN_le {L : List Int} {k : Nat} (h : rsN L k = false) : ∀ j, k ≤ j → rsN L j = false
  | 0, hj => by rw [show (0 : Nat) = k by omega]; exact h
  | j + 1, hj => by
    by_cases e : k = j + 1
    · rw [← e]; exact h
    · rw [rsN, rsN_le h j (by omega)]; rfl
/-- A calendar is right. -/
def cyB (wk : List Bool) (hs : List Int) : Bool := decide (wk.length = 7) && decide (hs.length ≤ 60) && alB 0 100000 hs && rsN hs hs.length
theorem cy_facts {wk : List Bool} {hs : List Int} (h : cyB wk hs = true) : wk.length = 7 ∧ hs.length ≤ 60 ∧ alB 0 100000 hs = true ∧ rsN hs hs.length = true := by
  unfold cyB at h
  simp only [Bool.and_eq_true, decide_eq_true_eq] at h
  exact ⟨h.1.1.1, h.1.1.2, h.1.2, h.2⟩
/-- What stands against both lists first. -/
def cyC (wk : List Bool) (hs : List Int) : Int := if 4096 < wk.length ∨ 4096 < hs.length then 2 else if cyB wk hs = false then 1 else 0
theorem cy_ways (wk : List Bool) (hs : List Int) : (4096 < wk.length ∧ cyC wk hs = 2) ∨ (wk.length ≤ 4096 ∧ 4096 < hs.length ∧ cyC wk hs = 2) ∨ (wk.length ≤ 4096 ∧ hs.length ≤ 4096 ∧ cyB wk hs = false ∧ cyC wk hs = 1) ∨ (wk.length ≤ 4096 ∧ hs.length ≤ 4096 ∧ cyB wk hs = true ∧ cyC wk hs = 0) := by
  unfold cyC
  by_cases h1 : 4096 < wk.length
  · rw [if_pos (.inl h1)]; exact .inl ⟨h1, rfl⟩
  by_cases h2 : 4096 < hs.length
  · rw [if_pos (.inr h2)]; exact .inr (.inl ⟨by omega, h2, rfl⟩)
  rw [if_neg (by omega)]
  by_cases h3 : cyB wk hs = false
  · rw [if_pos h3]; exact .inr (.inr (.inl ⟨by omega, by omega, h3, rfl⟩))
  · rw [if_neg h3]; exact .inr (.inr (.inr ⟨by omega, by omega, by simpa using h3, rfl⟩))
/-- NextDay's answer. -/
def ndD (wk : List Bool) (hs : List Int) (d : Int) : Int := if cyC wk hs = 0 ∧ inB d 0 100000 = true ∧ nx (opB wk hs) d 400 ≠ d + 400 then nx (opB wk hs) d 400 else 0
def ndC (wk : List Bool) (hs : List Int) (d : Int) : Int := if cyC wk hs ≠ 0 then cyC wk hs else if inB d 0 100000 = false then 5 else if nx (opB wk hs) d 400 = d + 400 then 8 else 0
/-- A stretch is right. -/
def stB (f t : Int) : Bool := decide (0 ≤ f) && decide (f ≤ t) && decide (t ≤ 100000) && decide (t - f ≤ 400)
def ddC (wk : List Bool) (hs : List Int) (f t : Int) : Int := if cyC wk hs ≠ 0 then cyC wk hs else if stB f t = false then 5 else 0
def ddL (wk : List Bool) (hs : List Int) (f t : Int) : List Int := if ddC wk hs f t = 0 then dl (opB wk hs) f (t - f).toNat else []
theorem st_facts {f t : Int} (h : stB f t = true) : 0 ≤ f ∧ f ≤ t ∧ t ≤ 100000 ∧ t - f ≤ 400 := by
  unfold stB at h
  simp only [Bool.and_eq_true, decide_eq_true_eq] at h
  exact ⟨h.1.1.1, h.1.1.2, h.1.2, h.2⟩
theorem dd_le (wk : List Bool) (hs : List Int) (f t : Int) : (ddL wk hs f t).length ≤ 400 := by
  unfold ddL
  split
  · next h =>
    have hst : stB f t = true := by
      unfold ddC at h
      by_cases h1 : cyC wk hs ≠ 0
      · rw [if_pos h1] at h; exact absurd h h1
      · rw [if_neg h1] at h
        by_cases h2 : stB f t = false
        · rw [if_pos h2] at h; omega
        · simpa using h2
    have := dl_len (opB wk hs) (t - f).toNat f
    have := st_facts hst
    omega
  · simp
theorem rsN_fail {L : List Int} {k : Nat} (h0 : 0 < k) (hk : k < L.length) (h : ¬ L.getD (k - 1) 0 < L.getD k 0) : rsN L L.length = false := by
  refine rsN_le (k := k + 1) ?_ L.length (by omega)
  rw [rsN, decide_eq_false (by omega), decide_eq_false h]; simp
theorem rsN_next {L : List Int} {k : Nat} (hr : rsN L k = true) (h : k = 0 ∨ L.getD (k - 1) 0 < L.getD k 0) : rsN L (k + 1) = true := by
  rw [rsN, hr]
  rcases h with h | h
  · rw [decide_eq_true h]; rfl
  · rw [decide_eq_true h]; simp
theorem nx_hit {p : Int → Bool} : ∀ {n : Nat} {s : Int}, nx p s n < s + n → p (nx p s n) = true
  | 0, s, h => by simp [nx] at h
  | n + 1, s, h => by
    by_cases hp : p s = true
    · rw [nx_yes hp]; exact hp
    · have hp' : p s = false := by simpa using hp
      rw [nx_no hp'] at h ⊢
      exact nx_hit (by omega)
theorem contains_at {L : List Int} {k : Nat} {d : Int} (hk : k < L.length) (h : L.getD k 0 = d) : hasI L d = true := by
  unfold hasI
  have e : L.getD k 0 = L[k] := by simp [List.getD_eq_getElem?_getD, hk]
  rw [List.contains_iff_mem]
  rw [← h, e]; exact List.getElem_mem _
theorem contains_take {L : List Int} {k : Nat} {d : Int} (hk : k < L.length) (h : L.getD k 0 ≠ d) (hc : hasI (L.take k) d = false) : hasI (L.take (k + 1)) d = false := by
  unfold hasI at hc ⊢
  have e : L.getD k 0 = L[k] := by simp [List.getD_eq_getElem?_getD, hk]
  rw [List.take_succ_eq_append_getElem hk]
  have h1 : d ∉ L.take k := by simpa [List.contains_iff_mem] using hc
  have h2 : d ∉ L.take k ++ [L[k]] := fun q => by
    rcases List.mem_append.1 q with q | q
    · exact h1 q
    · simp at q; exact h (by rw [e]; exact q.symm)
  simpa [List.contains_iff_mem] using h2
end Go.Proofs.Ytlkjpemhamemgaa
