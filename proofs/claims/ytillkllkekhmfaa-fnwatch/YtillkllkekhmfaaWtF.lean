/-
  What the law FnWatch asks of a trace: of a drawn trace the program's watch counts as the specification's, no number lies outside of its least and most, both are among the numbers, the trace turned round tells the same, and there are warm minutes just where the most is above the limit; with no condition.
-/
import Derived.Test.YtillkllkekhmfaaWtM
namespace Go.Proofs.Ytillkllkekhmfaa
open Go.ChangeShapes Go.WideShapes Go.ChangeAt Go.RowKit Go.Joins Go.Deep
set_option linter.unusedVariables false
attribute [local go_sem] run_store_float

namespace FnWatch
def cnt (v : Nat) (xs : List Nat) : Nat := xs.countP fun x => eqF x v
/-- What the law asks of a trace with a number in it. -/
structure WF (L : List Nat) (hi : Nat) (t t' : WtA) : Prop where
  c : t.c = 0
  c' : t'.c = 0
  el : eqF t'.lo t.lo = true
  eh : eqF t'.hi t.hi = true
  n : t'.n = t.n
  all : t.n + t.g = L.length
  mean : eqF t.m t.m = true
  ends : ∀ i, i < L.length → ltF (L.getD i 0) t.lo = false ∧ ltF t.hi (L.getD i 0) = false
  least : 0 < cnt t.lo L
  most : 0 < cnt t.hi L
  wc : wmC L hi oneG = 0
  wlt : ((FloatKind.format .f32).order (wmA L hi oneG) 0 == some .lt) = false
  wgt : ((FloatKind.format .f32).order (wmA L hi oneG) 0 == some .gt) = ltF hi t.hi
  vc : wmC L t.hi twoG = 0
  v0 : wmA L t.hi twoG = 0
theorem tr_zero {xs : List Nat} (hl : xs.length ≤ 25) (hok : oksF xs = true) : trC xs = 0 := by
  unfold trC trB
  rw [if_neg (by omega), decide_eq_true (by omega : xs.length ≤ 200), hok]
  rfl
theorem wtA_of {xs : List Nat} (hl : xs.length ≤ 25) (hok : oksF xs = true) : (vsF xs = [] ∧ wtA xs = ⟨0, 0, 0, 0, 0, 8⟩) ∨ (vsF xs ≠ [] ∧ (wtA xs).c = 0 ∧ (wtA xs).n = ((vsF xs).length : Int) ∧ (wtA xs).g = (xs.length : Int) - ((vsF xs).length : Int) ∧ (wtA xs).lo = (wtV (vsF xs)).lo ∧ (wtA xs).hi = (wtV (vsF xs)).hi ∧ eqF (wtA xs).m (wtA xs).m = true) := by
  have h1 := thT_all hok (by omega)
  have h2 : (thT xs xs.length).length = (vsF xs).length := by rw [← h1, List.length_map]
  have h3 : wtS (thT xs xs.length) = wtV (vsF xs) := by rw [wtS_eq, h1]
  have h4 := thT_len xs xs.length
  by_cases h0 : vsF xs = []
  · left
    refine ⟨h0, ?_⟩
    unfold wtA
    rw [if_pos (tr_zero hl hok), if_pos (by rw [h2, h0]; rfl)]
  · right
    have h5 : (thT xs xs.length).length ≠ 0 := by rw [h2]; exact fun e => h0 (List.length_eq_zero_iff.1 e)
    have hw : wtA xs = ⟨(thT xs xs.length).length, (xs.length : Int) - (thT xs xs.length).length, fdiv (wtS (thT xs xs.length)).s (floatOfInt .f64 ((thT xs xs.length).length : Int)), (wtS (thT xs xs.length)).lo, (wtS (thT xs xs.length)).hi, 0⟩ := by
      unfold wtA
      rw [if_pos (tr_zero hl hok), if_neg h5]
    rw [hw]
    dsimp only
    refine ⟨h0, rfl, by rw [h2], by rw [h2], by rw [h3], by rw [h3], ?_⟩
    exact mean_num (L := 1084 + 2 * (thT xs xs.length).length) (by omega) (by omega) (wtS_fin _ (by omega)) (by omega) (by omega)
theorem facts {L : List Nat} (hl : L.length ≤ 25) (hd : ∀ x ∈ L, okDr x) {hi lo : Nat} (hh : hiOK hi lo) : wtA L = ⟨0, 0, 0, 0, 0, 8⟩ ∨ WF L hi (wtA L) (wtA L.reverse) := by
  have hok : oksF L = true := List.all_eq_true.2 (fun x hx => okDr_ok (hd x hx))
  have hok' : oksF L.reverse = true := List.all_eq_true.2 (fun x hx => okDr_ok (hd x (by simpa using hx)))
  rcases wtA_of hl hok with ⟨_, h⟩ | ⟨h0, a1, a2, a3, a4, a5, a6⟩
  · exact .inl h
  right
  have hl' : L.reverse.length ≤ 25 := by simpa using hl
  rcases wtA_of hl' hok' with ⟨h, _⟩ | ⟨_, b1, b2, b3, b4, b5, b6⟩
  · rw [vs_rev] at h
    exact absurd (by simpa using h) h0
  have hn : ∀ x ∈ vsF L, msF x = false := fun x hx => vs_num hx
  obtain ⟨⟨c1, c2⟩, c3⟩ := wtV_ends (vsF L) hn h0
  obtain ⟨d1, d2⟩ := wtV_turn hn h0
  have hmem : ∀ x, x ∈ vsF L → x ∈ L := fun x hx => (List.mem_filter.1 hx).1
  have hdr : ∀ x ∈ vsF L, x ∈ drV := fun x hx => by
    rcases hd x (hmem x hx) with h | h
    · rw [hn x hx] at h; cases h
    · exact h
  have hiv := hi_in hh
  have hid : dgF hi = true := by have := hiV_dg; rw [List.all_eq_true] at this; exact this hi hiv
  have hin : msF hi = false := in_there hid
  have htd : dgF (wtV (vsF L)).hi = true := by have := drV_ok; rw [List.all_eq_true] at this; exact this _ (hdr _ c2)
  have hw1 : wmC L hi oneG = 0 := by unfold wmC; rw [if_pos (tr_zero hl hok), hid, oneG_bs]; rfl
  have hw2 : wmC L (wtV (vsF L)).hi twoG = 0 := by unfold wmC; rw [if_pos (tr_zero hl hok), htd, twoG_bs]; rfl
  have hv1 : ∀ lim bs, wmC L lim bs = 0 → wmA L lim bs = wmV lim bs (vsF L) := fun lim bs h => by
    unfold wmA
    rw [if_pos h, wmS_eq, thT_all hok (by omega)]
  obtain ⟨e1, e2⟩ := wmV_pos hiv (vsF L) hdr
  refine ⟨a1, b1, by rw [a4, b4, vs_rev]; exact d1, by rw [a5, b5, vs_rev]; exact d2, by rw [a2, b2, vs_rev, List.length_reverse], by rw [a2, a3]; omega, a6, fun i hi => ?_, ?_, ?_, hw1, ?_, ?_, by rw [a5]; exact hw2, ?_⟩
  · rw [a4, a5]
    by_cases hm : msF (L.getD i 0) = true
    · exact ⟨lt_none (.inl hm), lt_none (.inr hm)⟩
    · have hm' : msF (L.getD i 0) = false := by simpa using hm
      have hx : L.getD i 0 ∈ vsF L := by
        refine List.mem_filter.2 ⟨?_, by rw [hm']; rfl⟩
        have e : L.getD i 0 = L[i] := by simp [List.getD_eq_getElem?_getD, hi]
        rw [e]; exact List.getElem_mem _
      have := c3 _ hx
      exact ⟨by rw [lt_kk hm' (hn _ c1)]; exact decide_eq_false (by omega), by rw [lt_kk (hn _ c2) hm']; exact decide_eq_false (by omega)⟩
  · rw [a4]
    exact List.countP_pos_iff.2 ⟨_, hmem _ c1, by rw [eq_self, hn _ c1]; rfl⟩
  · rw [a5]
    exact List.countP_pos_iff.2 ⟨_, hmem _ c2, by rw [eq_self, hn _ c2]; rfl⟩
  · rw [hv1 _ _ hw1]
    exact nonneg_lt32 e1
  · rw [hv1 _ _ hw1, a5]
    cases hlt : ltF hi (wtV (vsF L)).hi with
    | true => exact pos_gt (e2 ⟨_, c2, hlt⟩)
    | false =>
      rw [lt_kk hin (hn _ c2)] at hlt
      have h3 := of_decide_eq_false hlt
      rw [wmV_zero _ _ _ (fun x hx => by
        rw [lt_kk hin (hn _ hx)]
        have := c3 _ hx
        exact decide_eq_false (by omega))]
      exact zero_gt
  · rw [a5, hv1 _ _ hw2]
    exact wmV_zero _ _ _ (fun x hx => by
      rw [lt_kk (hn _ c2) (hn _ hx)]
      have := c3 _ hx
      exact decide_eq_false (by omega))
end FnWatch
end Go.Proofs.Ytillkllkekhmfaa
