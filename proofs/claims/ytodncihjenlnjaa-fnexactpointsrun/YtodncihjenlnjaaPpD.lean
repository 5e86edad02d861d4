/-
  What a spend takes, lot by lot; nothing of the program is in it.
-/
import Derived.Test.YtodncihjenlnjaaPpC
namespace Go.Proofs.Ytodncihjenlnjaa
open Go.ChangeShapes Go.WideShapes Go.ChangeAt Go.RowKit Go.Deep
set_option linter.unusedVariables false

structure TkF (m : Int) (L : List RLo) : Prop where
  one : 1 ≤ tkN m L
  le : tkN m L ≤ m
  sum : sumP (tkL m L) = sumP L - tkN m L
  good : ∀ r ∈ tkL m L, LoN r
  len : (tkL m L).length ≤ L.length
  part : LoN (tkP m L)
theorem sumP_split (L : List RLo) (i : Nat) (hi : i < L.length) : sumP L = sumP (L.take i) + (L.getD i zLo).nu + sumP (L.drop (i + 1)) := by
  have e : L.getD i zLo = L[i] := by simp [List.getD_eq_getElem?_getD, hi]
  have e2 : L.take i ++ L[i] :: L.drop (i + 1) = L := by rw [List.getElem_cons_drop hi, List.take_append_drop]
  have h := congrArg sumP e2
  rw [sumP_append] at h
  have h2 : ∀ (x : RLo) (M : List RLo), sumP (x :: M) = x.nu + sumP M := fun x M => by simp [sumP]
  rw [h2] at h
  rw [e]; omega
theorem tk_facts {m : Int} {L : List RLo} (hN : ∀ r ∈ L, LoN r) (hm : 1 ≤ m) (hs : m ≤ sumP L) : 0 < L.length ∧ TkF m L := by
  have hl : 0 < L.length := by
    rcases Nat.eq_zero_or_pos L.length with h | h
    · have : L = [] := List.eq_nil_of_length_eq_zero h
      subst this
      simp [sumP] at hs; omega
    · exact h
  have hti : tkI L < L.length := feN_lt L _ hl
  have hn := getLo' hN hti
  have hsp := sumP_split L (tkI L) hti
  refine ⟨hl, ?_⟩
  unfold LoN at hn
  have hx : tkN m L = min m (L.getD (tkI L) zLo).nu := rfl
  refine ⟨by omega, by omega, ?_, fun r hr => ?_, ?_, ⟨by show 1 ≤ tkN m L; omega, by show tkN m L ≤ _; omega⟩⟩
  · unfold tkL
    split
    · rename_i h0
      rw [sumP_append]; omega
    · have hi2 : tkI L < (L.set (tkI L) ⟨(L.getD (tkI L) zLo).nu - tkN m L, (L.getD (tkI L) zLo).un⟩).length := by rw [List.length_set]; exact hti
      rw [sumP_split _ (tkI L) hi2]
      have e1 : (L.set (tkI L) ⟨(L.getD (tkI L) zLo).nu - tkN m L, (L.getD (tkI L) zLo).un⟩).take (tkI L) = L.take (tkI L) := by rw [List.take_set]; exact List.set_eq_of_length_le (by simp; omega)
      have e2 : (L.set (tkI L) ⟨(L.getD (tkI L) zLo).nu - tkN m L, (L.getD (tkI L) zLo).un⟩).drop (tkI L + 1) = L.drop (tkI L + 1) := by rw [List.drop_set, if_pos (by omega)]
      have e3 : (L.set (tkI L) ⟨(L.getD (tkI L) zLo).nu - tkN m L, (L.getD (tkI L) zLo).un⟩).getD (tkI L) zLo = ⟨(L.getD (tkI L) zLo).nu - tkN m L, (L.getD (tkI L) zLo).un⟩ := by simp [List.getD_eq_getElem?_getD, hti]
      rw [e1, e2, e3]
      dsimp only
      omega
  · unfold tkL at hr
    split at hr
    · rcases List.mem_append.1 hr with h | h
      · exact hN r (List.mem_of_mem_take h)
      · exact hN r (List.mem_of_mem_drop h)
    · rename_i h0
      rcases List.mem_or_eq_of_mem_set hr with h | h
      · exact hN r h
      · rw [h]; unfold LoN; dsimp only; omega
  · unfold tkL
    split
    · rw [List.length_append, List.length_take, List.length_drop]; omega
    · rw [List.length_set]; exact Nat.le_refl _
/-- One step of a spend: what is missing, the lots, what was taken. -/
def tkS (s : Int × List RLo × List RLo) : Int × List RLo × List RLo := if s.1 ≤ 0 then s else (s.1 - tkN s.1 s.2.1, tkL s.1 s.2.1, s.2.2 ++ [tkP s.1 s.2.1])
def tkT (m : Int) (L : List RLo) : Nat → Int × List RLo × List RLo
  | 0 => (m, L, [])
  | k + 1 => tkS (tkT m L k)
structure TkI (m : Int) (L : List RLo) (s : Int × List RLo × List RLo) : Prop where
  low : 0 ≤ s.1
  top : s.1 ≤ sumP s.2.1
  good : ∀ r ∈ s.2.1, LoN r
  out : ∀ r ∈ s.2.2, LoN r
  bal : sumP s.2.2 + s.1 = m
  keep : sumP s.2.1 - s.1 = sumP L - m
  len : s.2.1.length ≤ L.length
theorem tkT_inv {m : Int} {L : List RLo} (hN : ∀ r ∈ L, LoN r) (hm : 0 ≤ m) (hs : m ≤ sumP L) : ∀ k, TkI m L (tkT m L k)
  | 0 => ⟨hm, hs, hN, by simp [tkT], by simp [tkT, sumP], rfl, Nat.le_refl _⟩
  | k + 1 => by
    have ih := tkT_inv hN hm hs k
    rw [tkT]
    generalize tkT m L k = s at *
    unfold tkS
    by_cases h : s.1 ≤ 0
    · rw [if_pos h]; exact ih
    · rw [if_neg h]
      obtain ⟨i1, i2, i3, i4, i5, i6, i7⟩ := ih
      obtain ⟨_, f⟩ := tk_facts i3 (by omega) i2
      have h1 := f.one
      have h2 := f.le
      have h3 := f.sum
      refine ⟨by dsimp only; omega, by dsimp only; omega, f.good, fun r hr => ?_, ?_, by dsimp only; omega, Nat.le_trans f.len i7⟩
      · rcases List.mem_append.1 hr with q | q
        · exact i4 r q
        · rw [List.mem_singleton.1 q]; exact f.part
      · dsimp only
        rw [sumP_append]
        have : sumP [tkP s.1 s.2.1] = tkN s.1 s.2.1 := by simp [sumP, tkP]
        omega
theorem tkT_fst {m : Int} {L : List RLo} (hN : ∀ r ∈ L, LoN r) (hm : 0 ≤ m) (hs : m ≤ sumP L) : ∀ k : Nat, (tkT m L k).1 ≤ max 0 (m - (k : Int))
  | 0 => by simp [tkT]; omega
  | k + 1 => by
    have ih := tkT_fst hN hm hs k
    have iv := tkT_inv hN hm hs k
    rw [tkT]
    generalize tkT m L k = s at *
    unfold tkS
    by_cases h : s.1 ≤ 0
    · rw [if_pos h]; omega
    · rw [if_neg h]
      obtain ⟨_, f⟩ := tk_facts iv.good (by omega) iv.top
      have h1 := f.one
      dsimp only
      push_cast
      omega
theorem tkT_still {m : Int} {L : List RLo} {k : Nat} (h : (tkT m L k).1 ≤ 0) : ∀ j, tkT m L (k + j) = tkT m L k
  | 0 => rfl
  | j + 1 => by
    rw [← Nat.add_assoc, tkT, tkT_still h j]
    unfold tkS
    rw [if_pos h]
/-- What is left of the lots, and what was taken. -/
def spL (m : Int) (L : List RLo) : List RLo := (tkT m L m.toNat).2.1
def spO (m : Int) (L : List RLo) : List RLo := (tkT m L m.toNat).2.2
theorem tkT_end {m : Int} {L : List RLo} (hN : ∀ r ∈ L, LoN r) (hm : 0 ≤ m) (hs : m ≤ sumP L) {k : Nat} (h : (tkT m L k).1 ≤ 0) : (tkT m L k).2.1 = spL m L ∧ (tkT m L k).2.2 = spO m L := by
  have hz : (tkT m L m.toNat).1 ≤ 0 := by have := tkT_fst hN hm hs m.toNat; omega
  have e : tkT m L k = tkT m L m.toNat := by
    rcases Nat.le_total k m.toNat with q | q
    · have := tkT_still h (m.toNat - k)
      rw [show k + (m.toNat - k) = m.toNat by omega] at this
      exact this.symm
    · have := tkT_still hz (k - m.toNat)
      rw [show m.toNat + (k - m.toNat) = k by omega] at this
      exact this
  rw [e]
  exact ⟨rfl, rfl⟩
theorem sp_facts {m : Int} {L : List RLo} (hN : ∀ r ∈ L, LoN r) (hm : 0 ≤ m) (hs : m ≤ sumP L) : (∀ r ∈ spL m L, LoN r) ∧ (∀ r ∈ spO m L, LoN r) ∧ sumP (spO m L) = m ∧ sumP (spL m L) = sumP L - m ∧ (spL m L).length ≤ L.length := by
  have h := tkT_inv hN hm hs m.toNat
  have hz : (tkT m L m.toNat).1 ≤ 0 := by have := tkT_fst hN hm hs m.toNat; omega
  have h0 := h.low
  exact ⟨h.good, h.out, by have := h.bal; unfold spO; omega, by have := h.keep; unfold spL; omega, h.len⟩
end Go.Proofs.Ytodncihjenlnjaa
