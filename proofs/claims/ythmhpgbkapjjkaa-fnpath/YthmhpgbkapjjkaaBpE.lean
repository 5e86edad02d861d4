/-
  The specification's search for the shortest way, as mathematics: what is left by a mask, what the memo may hold.
-/
import Derived.Test.YthmhpgbkapjjkaaBpD
namespace Go.Proofs.Ythmhpgbkapjjkaa
open Go.ChangeShapes Go.WideShapes Go.ChangeAt Go.RowKit Go.Joins Go.Deep
set_option linter.unusedVariables false

/-- What a mask leaves of n. -/
def msL (mask n : Nat) : List Nat := unL (fun i => mask.testBit i) n
theorem ms_or (mask n i : Nat) : msL (mask ||| 2 ^ i) n = (msL mask n).erase i := unL_erase (fun j => by
  rw [Nat.testBit_or, Nat.testBit_two_pow]
  by_cases h : i = j
  · subst h; simp
  · have h' : ¬ j = i := fun e => h e.symm
    simp [h, h'])
theorem ms_mem (mask n i : Nat) : i ∈ msL mask n ↔ i < n ∧ mask.testBit i = false := unL_mem _ n i
theorem or_lt {mask n i : Nat} (hm : mask < 2 ^ n) (hi : i < n) : mask ||| 2 ^ i < 2 ^ n := Nat.or_lt_two_pow hm (Nat.pow_lt_pow_right (by omega) hi)
theorem ms_nil {mask n : Nat} (hm : mask < 2 ^ n) : msL mask n = [] ↔ mask = 2 ^ n - 1 := by
  constructor
  · intro h
    refine Nat.eq_of_testBit_eq (fun i => ?_)
    rw [Nat.testBit_two_pow_sub_one]
    by_cases hi : i < n
    · have : i ∉ msL mask n := by rw [h]; simp
      rw [ms_mem] at this
      simp [hi]
      cases e : mask.testBit i
      · exact absurd ⟨hi, e⟩ this
      · rfl
    · simp [hi]
      exact Nat.testBit_lt_two_pow (Nat.lt_of_lt_of_le hm (Nat.pow_le_pow_right (by omega) (by omega)))
  · intro h
    rw [List.eq_nil_iff_forall_not_mem]
    intro i hi
    rw [ms_mem, h, Nat.testBit_two_pow_sub_one] at hi
    simp [hi.1] at hi
theorem ms_zero (n : Nat) : msL 0 n = lfL [] n := by
  unfold msL lfL unL
  congr 1
  funext i
  simp [hasI]
/-- The shortest way home from where one stands, over what a mask leaves. -/
def lvN (p g : Int) (rs : List RPt) (mask : Nat) (q : RPt) : Int := lsN p g rs (msL mask rs.length).length (msL mask rs.length) q
theorem lv_end {p g : Int} {rs : List RPt} {mask : Nat} {q : RPt} (h : msL mask rs.length = []) : lvN p g rs mask q = farN p g q zPt := by
  unfold lvN
  rw [h]
  rfl
theorem lv_bd {a p g : Int} {rs : List RPt} (hh : hlB a p g = true) (hs : spsB a p rs = true) (mask : Nat) {q : RPt} (hq : spB a p q = true) : 0 ≤ lvN p g rs mask q ∧ lvN p g rs mask q ≤ 2300 * (((msL mask rs.length).length : Int) + 1) := by
  have h := ls_bd hh hs (msL mask rs.length).length (msL mask rs.length) q rfl hq
  have := farN_bd hh hq (sp_z hh)
  unfold lvN
  omega
theorem ms_len (mask n : Nat) : (msL mask n).length ≤ n := by
  unfold msL unL
  refine Nat.le_trans (List.length_filter_le _ _) (by simp)
/-- What one pick more comes to. -/
def vuN (p g : Int) (rs : List RPt) (mask : Nat) (q : RPt) (i : Nat) : Int := farN p g q (rs.getD i zPt) + lvN p g rs (mask ||| 2 ^ i) (rs.getD i zPt)
theorem lv_more {p g : Int} {rs : List RPt} {mask : Nat} {q : RPt} (h : msL mask rs.length ≠ []) : lvN p g rs mask q = mnL ((msL mask rs.length).map (vuN p g rs mask q)) := by
  unfold lvN
  obtain ⟨k, hk⟩ : ∃ k, (msL mask rs.length).length = k + 1 := ⟨(msL mask rs.length).length - 1, by have := List.length_pos_iff.2 h; omega⟩
  rw [hk, ls_succ]
  congr 1
  refine List.map_congr_left (fun i hi => ?_)
  unfold viN vuN lvN
  have e : ((msL mask rs.length).erase i).length = k := by rw [List.length_erase_of_mem hi, hk]; rfl
  rw [ms_or, e]
/-- The least so far: none is -1. -/
def lsB (l : List Int) : Int := if l = [] then -1 else mnL l
theorem lsB_nil : lsB [] = -1 := rfl
theorem lsB_snoc {l : List Int} {x : Int} (h0 : ∀ y ∈ l, 0 ≤ y) : lsB (l ++ [x]) = if lsB l < 0 ∨ x < lsB l then x else lsB l := by
  unfold lsB
  rw [if_neg (by simp), mnL_snoc]
  by_cases h : l = []
  · rw [if_pos h, if_pos h, if_pos (.inl (by omega))]
  · rw [if_neg h, if_neg h]
    have := h0 _ (mnL_mem l h)
    by_cases hx : x < mnL l
    · rw [if_pos (.inr hx)]; omega
    · rw [if_neg (by omega)]; omega
/-- The place in the memo. -/
def ixN (n mask last : Nat) : Nat := mask * (n + 1) + last
theorem ix_lt {n mask last : Nat} (hm : mask < 2 ^ n) (hl : last ≤ n) : ixN n mask last < (n + 1) * 2 ^ n := by
  unfold ixN
  have h1 : (mask + 1) * (n + 1) ≤ 2 ^ n * (n + 1) := Nat.mul_le_mul_right _ hm
  rw [Nat.add_mul, Nat.one_mul] at h1
  rw [Nat.mul_comm (n + 1)]
  omega
theorem ix_inj {n m m' l l' : Nat} (hl : l ≤ n) (hl' : l' ≤ n) (h : ixN n m l = ixN n m' l') : m = m' ∧ l = l' := by
  unfold ixN at h
  have e1 : (m * (n + 1) + l) / (n + 1) = m := by rw [Nat.mul_comm, Nat.mul_add_div (by omega), Nat.div_eq_of_lt (by omega), Nat.add_zero]
  have e2 : (m' * (n + 1) + l') / (n + 1) = m' := by rw [Nat.mul_comm, Nat.mul_add_div (by omega), Nat.div_eq_of_lt (by omega), Nat.add_zero]
  have e : m = m' := by rw [← e1, h, e2]
  subst e
  exact ⟨rfl, by omega⟩
/-- What the memo may hold. -/
def MeOK (p g : Int) (rs : List RPt) (ms : List Int) : Prop := ms.length = (rs.length + 1) * 2 ^ rs.length ∧ ∀ mask last, mask < 2 ^ rs.length → last ≤ rs.length → ms.getD (ixN rs.length mask last) 0 = -1 ∨ ms.getD (ixN rs.length mask last) 0 = lvN p g rs mask (rs.getD last zPt)
theorem MeOK.start (p g : Int) (rs : List RPt) : MeOK p g rs (List.replicate ((rs.length + 1) * 2 ^ rs.length) (-1)) := by
  refine ⟨by simp, fun mask last hm hl => .inl ?_⟩
  have := ix_lt hm hl
  simp [List.getD_eq_getElem?_getD, this]
theorem MeOK.put {p g : Int} {rs : List RPt} {ms : List Int} (h : MeOK p g rs ms) {mask last : Nat} (hm : mask < 2 ^ rs.length) (hl : last ≤ rs.length) : MeOK p g rs (ms.set (ixN rs.length mask last) (lvN p g rs mask (rs.getD last zPt))) := by
  refine ⟨by simp [h.1], fun m l h1 h2 => ?_⟩
  by_cases e : ixN rs.length mask last = ixN rs.length m l
  · obtain ⟨rfl, rfl⟩ := ix_inj hl h2 e
    have := ix_lt hm hl
    refine .inr ?_
    rw [List.getD_eq_getElem?_getD, List.getElem?_set_self (by rw [h.1]; exact this)]
    rfl
  · have := h.2 m l h1 h2
    rw [List.getD_eq_getElem?_getD, List.getElem?_set_ne e, ← List.getD_eq_getElem?_getD]
    exact this
/-- The order that the specification takes pick by pick. -/
theorem bs_more {p g : Int} {rs : List RPt} {mask : Nat} {q : RPt} (h : msL mask rs.length ≠ []) : ∃ i, i ∈ msL mask rs.length ∧ vuN p g rs mask q i = lvN p g rs mask q ∧ (∀ j, j < i → j ∈ msL mask rs.length → vuN p g rs mask q j ≠ lvN p g rs mask q) ∧
    bsO p g rs (msL mask rs.length).length (msL mask rs.length) q = (i : Int) :: bsO p g rs (msL (mask ||| 2 ^ i) rs.length).length (msL (mask ||| 2 ^ i) rs.length) (rs.getD i zPt) := by
  obtain ⟨k, hk⟩ : ∃ k, (msL mask rs.length).length = k + 1 := ⟨(msL mask rs.length).length - 1, by have := List.length_pos_iff.2 h; omega⟩
  have hv : ∀ i, i ∈ msL mask rs.length → viN p g rs k (msL mask rs.length) q i = vuN p g rs mask q i := fun i hi => by
    unfold viN vuN lvN
    have e : ((msL mask rs.length).erase i).length = k := by rw [List.length_erase_of_mem hi, hk]; rfl
    rw [ms_or, e]
  have hl : lsN p g rs (k + 1) (msL mask rs.length) q = lvN p g rs mask q := by unfold lvN; rw [hk]
  obtain ⟨h1, h2⟩ := fs_spec p g rs k h q
  refine ⟨fsN p g rs k (msL mask rs.length) q, h1, by rw [← hv _ h1, h2, hl], fun j hj hm e => ?_, ?_⟩
  · have hs : (msL mask rs.length).Pairwise (· < ·) := List.Pairwise.filter _ List.pairwise_lt_range
    unfold fsN at hj
    cases hf : (msL mask rs.length).find? fun i => viN p g rs k (msL mask rs.length) q i == lsN p g rs (k + 1) (msL mask rs.length) q with
    | none =>
      rw [List.find?_eq_none] at hf
      have := hf j hm
      rw [hv j hm, e, hl] at this
      simp at this
    | some x =>
      rw [hf] at hj
      simp at hj
      rw [List.find?_eq_some_iff_append] at hf
      obtain ⟨_, l1, l2, e1, e2⟩ := hf
      have hja : j ∈ l1 := by
        rw [e1] at hm hs
        rcases List.mem_append.1 hm with hm | hm
        · exact hm
        · rw [List.pairwise_append] at hs
          rcases List.mem_cons.1 hm with hm | hm
          · omega
          · have := (List.pairwise_cons.1 hs.2.1).1 j hm
            omega
      have := e2 j hja
      rw [hv j hm, e, hl] at this
      simp at this
  · have e : ((msL mask rs.length).erase (fsN p g rs k (msL mask rs.length) q)).length = k := by rw [List.length_erase_of_mem h1, hk]; rfl
    rw [hk, ms_or, e]
    rfl
end Go.Proofs.Ythmhpgbkapjjkaa
