/-
  The steps that bring the most, as mathematics: the first of several numbers that is the greatest; the choice of a day by the choices of the days behind it; what these steps bring; nothing of the program is in it.
-/
import Derived.Test.YtlcnhkhkhlpghaaMqB
namespace Go.Proofs.Ytlcnhkhkhlpghaa
open Go.ChangeShapes Go.WideShapes Go.ChangeAt Go.RowKit Go.Deep Go.Joins
set_option linter.unusedVariables false

/-- The first of g f, .., g (f + j) that is the greatest, and it. -/
def pick (g : Nat → Int) (f : Nat) : Nat → Nat × Int
  | 0 => (f, g f)
  | j + 1 => if (pick g f j).2 < g (f + 1 + j) then (f + 1 + j, g (f + 1 + j)) else pick g f j
theorem pick_next (g : Nat → Int) (f j : Nat) : pick g f (j + 1) = if (pick g f j).2 < g (f + 1 + j) then (f + 1 + j, g (f + 1 + j)) else pick g f j := rfl
theorem pick_lo (g : Nat → Int) (f : Nat) : ∀ j, f ≤ (pick g f j).1 ∧ (pick g f j).1 ≤ f + j
  | 0 => ⟨Nat.le_refl _, Nat.le_refl _⟩
  | j + 1 => by
    have ih := pick_lo g f j
    rw [pick_next]
    split
    · exact ⟨by show f ≤ f + 1 + j; omega, by show f + 1 + j ≤ f + (j + 1); omega⟩
    · omega
theorem pick_val (g : Nat → Int) (f : Nat) : ∀ j, (pick g f j).2 = g (pick g f j).1
  | 0 => rfl
  | j + 1 => by
    have ih := pick_val g f j
    rw [pick_next]
    split
    · rfl
    · exact ih
theorem pick_step (g : Nat → Int) (f j : Nat) : (pick g f (j + 1)).2 = max (pick g f j).2 (g (f + 1 + j)) := by
  rw [pick_next]
  split
  · show g _ = _; omega
  · omega
theorem pick_max (g : Nat → Int) (f : Nat) : ∀ j i, f ≤ i → i ≤ f + j → g i ≤ (pick g f j).2
  | 0, i, h1, h2 => by
    obtain rfl : i = f := by omega
    exact Int.le_refl _
  | j + 1, i, h1, h2 => by
    rw [pick_step]
    by_cases e : i = f + 1 + j
    · subst e; omega
    · have := pick_max g f j i h1 (by omega)
      omega
theorem pick_first (g : Nat → Int) (f : Nat) : ∀ j i, f ≤ i → i < (pick g f j).1 → g i < (pick g f j).2
  | 0, i, h1, h2 => by
    have : i < f := h2
    omega
  | j + 1, i, h1, h2 => by
    rw [pick_next] at h2 ⊢
    split at h2
    · rename_i hc
      rw [if_pos hc]
      show g i < g (f + 1 + j)
      have h3 : i < f + 1 + j := h2
      have := pick_max g f j i h1 (by omega)
      omega
    · rename_i hc
      rw [if_neg hc]
      exact pick_first g f j i h1 h2
/-- The units sold on day d at step s. -/
def soA (cs : LL) (d s : Nat) (l : Int) : Int := min ((cs.getD d []).getD s 0) l
/-- The choice with k days left, the least step f and l units: the step, and what it and the days behind it bring. -/
def chz (prs : List Int) (cs : LL) (N : Nat) : Nat → Nat → Int → Nat × Int
  | 0, _, _ => (0, 0)
  | k + 1, f, l => pick (fun s => soA cs (cs.length - (k + 1)) s l * prs.getD s 0 + (chz prs cs N k s (l - soA cs (cs.length - (k + 1)) s l)).2) f (N - 1 - f)
def wo (prs : List Int) (cs : LL) (N : Nat) (k s : Nat) (l : Int) : Int := soA cs (cs.length - (k + 1)) s l * prs.getD s 0 + (chz prs cs N k s (l - soA cs (cs.length - (k + 1)) s l)).2
theorem chz_next (prs : List Int) (cs : LL) (N k f : Nat) (l : Int) : chz prs cs N (k + 1) f l = pick (fun s => wo prs cs N k s l) f (N - 1 - f) := rfl
structure MrOK (prs : List Int) (cs : LL) (N : Nat) : Prop where
  n1 : 1 ≤ N ∧ N ≤ 5
  pl : prs.length = N
  pr : ∀ s, s < N → 0 ≤ prs.getD s 0 ∧ prs.getD s 0 ≤ 1000000
  cl : 1 ≤ cs.length ∧ cs.length ≤ 7
  cr : ∀ d, d < cs.length → (cs.getD d []).length = N
  cv : ∀ d, d < cs.length → ∀ k, k < N → 0 ≤ (cs.getD d []).getD k 0 ∧ (cs.getD d []).getD k 0 ≤ 200
theorem MkOK.mr {price stock : Int} {ps : List Int} {cs : LL} (h : MkOK price stock ps cs) : MrOK (prL price ps) cs ps.length := ⟨h.pl, prL_len _ _, fun s hs => h.prices hs, h.cl, h.cr, h.cv⟩
theorem MrOK.so {prs : List Int} {cs : LL} {N : Nat} (h : MrOK prs cs N) {d s : Nat} (hd : d < cs.length) (hs : s < N) {l : Int} (hl : 0 ≤ l) (hl' : l ≤ 200) : (0 ≤ soA cs d s l ∧ soA cs d s l ≤ l) ∧ 0 ≤ soA cs d s l * prs.getD s 0 ∧ soA cs d s l * prs.getD s 0 ≤ 200000000 := by
  have hc := h.cv d hd s hs
  have hp := h.pr s hs
  have hq : 0 ≤ soA cs d s l ∧ soA cs d s l ≤ l := by unfold soA; omega
  have hm2 : soA cs d s l * prs.getD s 0 ≤ 200 * 1000000 := Int.mul_le_mul (by omega) hp.2 hp.1 (by omega)
  exact ⟨hq, Int.mul_nonneg hq.1 hp.1, by omega⟩
theorem chz_bounds {prs : List Int} {cs : LL} {N : Nat} (h : MrOK prs cs N) : ∀ k f (l : Int), k ≤ cs.length → f < N → 0 ≤ l → l ≤ 200 → (0 ≤ (chz prs cs N k f l).2 ∧ (chz prs cs N k f l).2 ≤ 200000000 * (k : Int)) ∧ (0 < k → f ≤ (chz prs cs N k f l).1 ∧ (chz prs cs N k f l).1 < N)
  | 0, f, l, _, _, _, _ => ⟨⟨Int.le_refl _, by show (0 : Int) ≤ _; omega⟩, fun h => absurd h (by omega)⟩
  | k + 1, f, l, hk, hf, hl, hl' => by
    have hw : ∀ s, s < N → 0 ≤ wo prs cs N k s l ∧ wo prs cs N k s l ≤ 200000000 * ((k + 1 : Nat) : Int) := fun s hs => by
      obtain ⟨⟨a1, a2⟩, a3, a4⟩ := h.so (d := cs.length - (k + 1)) (by omega) hs hl hl'
      obtain ⟨⟨b1, b2⟩, _⟩ := chz_bounds h k s (l - soA cs (cs.length - (k + 1)) s l) (by omega) hs (by omega) (by omega)
      unfold wo
      omega
    rw [chz_next]
    have hlo := pick_lo (fun s => wo prs cs N k s l) f (N - 1 - f)
    rw [pick_val]
    exact ⟨hw _ (by omega), fun _ => by omega⟩
theorem wo_bounds {prs : List Int} {cs : LL} {N : Nat} (h : MrOK prs cs N) {k s : Nat} {l : Int} (hk : k + 1 ≤ cs.length) (hs : s < N) (hl : 0 ≤ l) (hl' : l ≤ 200) : 0 ≤ wo prs cs N k s l ∧ wo prs cs N k s l ≤ 200000000 * ((k + 1 : Nat) : Int) := by
  obtain ⟨⟨a1, a2⟩, a3, a4⟩ := h.so (d := cs.length - (k + 1)) (by omega) hs hl hl'
  obtain ⟨⟨b1, b2⟩, _⟩ := chz_bounds h k s (l - soA cs (cs.length - (k + 1)) s l) (by omega) hs (by omega) (by omega)
  unfold wo
  omega
/-- More units never bring less. -/
theorem chz_mono {prs : List Int} {cs : LL} {N : Nat} (h : MrOK prs cs N) : ∀ k f (l l' : Int), k ≤ cs.length → f < N → 0 ≤ l → l ≤ l' → (chz prs cs N k f l).2 ≤ (chz prs cs N k f l').2
  | 0, f, l, l', _, _, _, _ => Int.le_refl _
  | k + 1, f, l, l', hk, hf, hl, hl' => by
    rw [chz_next, chz_next, pick_val (fun s => wo prs cs N k s l)]
    have hlo := pick_lo (fun s => wo prs cs N k s l) f (N - 1 - f)
    generalize (pick (fun s => wo prs cs N k s l) f (N - 1 - f)).1 = s at *
    have hs : s < N := by omega
    have hm := pick_max (fun s => wo prs cs N k s l') f (N - 1 - f) s hlo.1 (by omega)
    refine Int.le_trans ?_ hm
    show wo prs cs N k s l ≤ wo prs cs N k s l'
    unfold wo
    have hc := h.cv (cs.length - (k + 1)) (by omega) s hs
    have hp := h.pr s hs
    have e1 : 0 ≤ soA cs (cs.length - (k + 1)) s l ∧ soA cs (cs.length - (k + 1)) s l ≤ soA cs (cs.length - (k + 1)) s l' ∧ 0 ≤ l - soA cs (cs.length - (k + 1)) s l ∧ l - soA cs (cs.length - (k + 1)) s l ≤ l' - soA cs (cs.length - (k + 1)) s l' := by unfold soA; omega
    have m1 : soA cs (cs.length - (k + 1)) s l * prs.getD s 0 ≤ soA cs (cs.length - (k + 1)) s l' * prs.getD s 0 := Int.mul_le_mul_of_nonneg_right e1.2.1 hp.1
    have m2 := chz_mono h k s _ _ (by omega) hs e1.2.2.1 e1.2.2.2
    omega
/-- The steps in their order: the step that holds behind d days, and what is left then. -/
def bs (prs : List Int) (cs : LL) (N : Nat) (st : Int) : Nat → Nat × Int
  | 0 => (0, st)
  | d + 1 => ((chz prs cs N (cs.length - d) (bs prs cs N st d).1 (bs prs cs N st d).2).1, (bs prs cs N st d).2 - soA cs d (chz prs cs N (cs.length - d) (bs prs cs N st d).1 (bs prs cs N st d).2).1 (bs prs cs N st d).2)
def bsL (prs : List Int) (cs : LL) (N : Nat) (st : Int) : Nat → List Int
  | 0 => []
  | d + 1 => bsL prs cs N st d ++ [((bs prs cs N st (d + 1)).1 : Int)]
theorem bsL_len (prs : List Int) (cs : LL) (N : Nat) (st : Int) : ∀ d, (bsL prs cs N st d).length = d
  | 0 => rfl
  | d + 1 => by rw [bsL, List.length_append, bsL_len prs cs N st d]; rfl
theorem bsL_at (prs : List Int) (cs : LL) (N : Nat) (st : Int) : ∀ d i, i < d → (bsL prs cs N st d).getD i 0 = ((bs prs cs N st (i + 1)).1 : Int)
  | d + 1, i, hi => by
    rw [bsL]
    by_cases e : i = d
    · subst e
      simp [List.getD_eq_getElem?_getD, bsL_len]
    · have ih := bsL_at prs cs N st d i (by omega)
      rw [List.getD_eq_getElem?_getD, List.getElem?_append_left (by rw [bsL_len]; omega), ← List.getD_eq_getElem?_getD]
      exact ih
theorem bs_bounds {prs : List Int} {cs : LL} {N : Nat} (h : MrOK prs cs N) {st : Int} (h0 : 0 ≤ st) (h2 : st ≤ 200) : ∀ d, d ≤ cs.length → (bs prs cs N st d).1 < N ∧ 0 ≤ (bs prs cs N st d).2 ∧ (bs prs cs N st d).2 ≤ 200
  | 0, _ => ⟨h.n1.1, h0, h2⟩
  | d + 1, hd => by
    obtain ⟨a1, a2, a3⟩ := bs_bounds h h0 h2 d (by omega)
    obtain ⟨_, b1⟩ := chz_bounds h (cs.length - d) _ _ (by omega) a1 a2 a3
    have b2 := b1 (by omega)
    obtain ⟨⟨c1, c2⟩, _⟩ := h.so (d := d) (by omega) b2.2 a2 a3
    rw [bs]
    exact ⟨b2.2, by show 0 ≤ _ - soA cs d _ _; omega, by show _ - soA cs d _ _ ≤ _; omega⟩
theorem bs_rise {prs : List Int} {cs : LL} {N : Nat} (h : MrOK prs cs N) {st : Int} (h0 : 0 ≤ st) (h2 : st ≤ 200) {d : Nat} (hd : d < cs.length) : (bs prs cs N st d).1 ≤ (bs prs cs N st (d + 1)).1 := by
  obtain ⟨a1, a2, a3⟩ := bs_bounds h h0 h2 d (by omega)
  exact ((chz_bounds h (cs.length - d) _ _ (by omega) a1 a2 a3).2 (by omega)).1
/-- The steps are right ones. -/
theorem bs_steps {prs : List Int} {cs : LL} {N : Nat} (h : MrOK prs cs N) {st : Int} (h0 : 0 ≤ st) (h2 : st ≤ 200) : stB N cs.length (bsL prs cs N st cs.length) = true := by
  unfold stB
  rw [bsL_len, decide_eq_true rfl, Bool.true_and]
  refine upTo_of fun i hi => ?_
  unfold stAt
  rw [bsL_at _ _ _ _ _ _ hi, Bool.and_eq_true, inB_iff]
  obtain ⟨a1, _, _⟩ := bs_bounds h h0 h2 (i + 1) (by omega)
  refine ⟨⟨by omega, by omega⟩, decide_eq_true ?_⟩
  cases i with
  | zero => show (0 : Int) ≤ _; omega
  | succ k =>
    show (bsL prs cs N st cs.length).getD k 0 ≤ _
    rw [bsL_at _ _ _ _ _ _ (by omega)]
    have := bs_rise h h0 h2 (d := k + 1) (by omega)
    omega
/-- What steps bring in the last k days, with l units. -/
def totR (prs : List Int) (cs : LL) (ss : List Int) : Nat → Int → Int
  | 0, _ => 0
  | k + 1, l => min (dA cs (cs.length - (k + 1)) (ss.getD (cs.length - (k + 1)) 0)) l * prs.getD (ss.getD (cs.length - (k + 1)) 0).toNat 0 + totR prs cs ss k (l - min (dA cs (cs.length - (k + 1)) (ss.getD (cs.length - (k + 1)) 0)) l)
theorem rv_tot (prs : List Int) (cs : LL) (ss : List Int) (st : Int) : ∀ k, k ≤ cs.length → rvN prs cs ss st cs.length = rvN prs cs ss st (cs.length - k) + totR prs cs ss k (lfN cs ss st (cs.length - k))
  | 0, _ => by simp [totR]
  | k + 1, hk => by
    rw [rv_tot prs cs ss st k (by omega)]
    obtain ⟨d, hd⟩ : ∃ d, cs.length - k = d + 1 := ⟨cs.length - (k + 1), by omega⟩
    have hd2 : cs.length - (k + 1) = d := by omega
    rw [totR, hd, hd2]
    show rvN prs cs ss st d + sdN cs ss st d * prs.getD (ss.getD d 0).toNat 0 + totR prs cs ss k (lfN cs ss st d - min (dA cs d (ss.getD d 0)) (lfN cs ss st d)) = _
    have e : sdN cs ss st d = min (dA cs d (ss.getD d 0)) (lfN cs ss st d) := rfl
    rw [e]
    omega
/-- Right steps bring at most what the choice brings. -/
theorem tot_le {prs : List Int} {cs : LL} {N : Nat} (h : MrOK prs cs N) {ss : List Int} (hs : stB N cs.length ss = true) : ∀ k f (l : Int), k ≤ cs.length → f < N → 0 ≤ l → l ≤ 200 → (0 < k → (f : Int) ≤ ss.getD (cs.length - k) 0) → totR prs cs ss k l ≤ (chz prs cs N k f l).2
  | 0, _, _, _, _, _, _, _ => Int.le_refl _
  | k + 1, f, l, hk, hf, hl, hl', hfs => by
    have hst := stOK_of hs
    have hd : cs.length - (k + 1) < cs.length := by omega
    obtain ⟨t1, t2⟩ := hst.2 (cs.length - (k + 1)) hd
    have hf2 := hfs (by omega)
    rw [totR, chz_next]
    generalize hss : ss.getD (cs.length - (k + 1)) 0 = sv at *
    obtain ⟨s, rfl⟩ : ∃ s : Nat, sv = (s : Int) := ⟨sv.toNat, by omega⟩
    rw [Int.toNat_natCast] at t2 ⊢
    have e : dA cs (cs.length - (k + 1)) (s : Int) = (cs.getD (cs.length - (k + 1)) []).getD s 0 := by unfold dA; rw [Int.toNat_natCast]
    have hm := pick_max (fun s => wo prs cs N k s l) f (N - 1 - f) s (by omega) (by omega)
    refine Int.le_trans ?_ hm
    show _ ≤ wo prs cs N k s l
    unfold wo
    rw [e]
    show soA cs _ s l * _ + totR prs cs ss k (l - soA cs _ s l) ≤ _
    obtain ⟨⟨a1, a2⟩, _, _⟩ := h.so hd t2 hl hl'
    have ih := tot_le h hs k s (l - soA cs (cs.length - (k + 1)) s l) (by omega) t2 (by omega) (by omega) (fun hk0 => by
      unfold stB at hs
      rw [Bool.and_eq_true] at hs
      have := upTo_at hs.2 (cs.length - k) (by rw [of_decide_eq_true hs.1]; omega)
      unfold stAt at this
      rw [Bool.and_eq_true] at this
      have h2 := of_decide_eq_true this.2
      obtain ⟨d, hd3⟩ : ∃ d, cs.length - k = d + 1 := ⟨cs.length - (k + 1), by omega⟩
      rw [hd3] at h2 ⊢
      have e2 : ahs ss (d + 1) = ss.getD d 0 := rfl
      rw [e2, show d = cs.length - (k + 1) by omega, hss] at h2
      rw [show d = cs.length - (k + 1) by omega]
      exact h2)
    omega
/-- The best steps bring just what the choice brings. -/
theorem tot_best {prs : List Int} {cs : LL} {N : Nat} (h : MrOK prs cs N) {st : Int} (h0 : 0 ≤ st) (h2 : st ≤ 200) : ∀ k, k ≤ cs.length → totR prs cs (bsL prs cs N st cs.length) k (bs prs cs N st (cs.length - k)).2 = (chz prs cs N k (bs prs cs N st (cs.length - k)).1 (bs prs cs N st (cs.length - k)).2).2
  | 0, _ => rfl
  | k + 1, hk => by
    have ih := tot_best h h0 h2 k (by omega)
    obtain ⟨d, hd⟩ : ∃ d, cs.length - k = d + 1 := ⟨cs.length - (k + 1), by omega⟩
    have hd2 : cs.length - (k + 1) = d := by omega
    have hk2 : cs.length - d = k + 1 := by omega
    rw [hd] at ih
    rw [totR, hd2, bsL_at _ _ _ _ _ _ (by omega), chz_next, pick_val]
    have es : (bs prs cs N st (d + 1)).1 = (pick (fun s => wo prs cs N k s (bs prs cs N st d).2) (bs prs cs N st d).1 (N - 1 - (bs prs cs N st d).1)).1 := by rw [bs, hk2]; rfl
    rw [← es, Int.toNat_natCast]
    have e : dA cs d ((bs prs cs N st (d + 1)).1 : Int) = (cs.getD d []).getD (bs prs cs N st (d + 1)).1 0 := by unfold dA; rw [Int.toNat_natCast]
    have el : (bs prs cs N st (d + 1)).2 = (bs prs cs N st d).2 - soA cs d (bs prs cs N st (d + 1)).1 (bs prs cs N st d).2 := rfl
    rw [e]
    show soA cs d _ _ * _ + totR prs cs _ k ((bs prs cs N st d).2 - soA cs d _ _) = wo prs cs N k _ _
    rw [← el, ih]
    unfold wo
    rw [hd2, ← el]
theorem rv_best {prs : List Int} {cs : LL} {N : Nat} (h : MrOK prs cs N) {st : Int} (h0 : 0 ≤ st) (h2 : st ≤ 200) : rvN prs cs (bsL prs cs N st cs.length) st cs.length = (chz prs cs N cs.length 0 st).2 := by
  have := rv_tot prs cs (bsL prs cs N st cs.length) st cs.length (Nat.le_refl _)
  rw [Nat.sub_self] at this
  have h3 := tot_best h h0 h2 cs.length (Nat.le_refl _)
  rw [Nat.sub_self] at h3
  rw [this]
  show 0 + totR prs cs _ cs.length st = _
  have e : (bs prs cs N st 0) = (0, st) := rfl
  rw [e] at h3
  rw [Int.zero_add]
  exact h3
theorem rv_most {prs : List Int} {cs : LL} {N : Nat} (h : MrOK prs cs N) {st : Int} (h0 : 0 ≤ st) (h2 : st ≤ 200) {ss : List Int} (hs : stB N cs.length ss = true) : rvN prs cs ss st cs.length ≤ (chz prs cs N cs.length 0 st).2 := by
  have := rv_tot prs cs ss st cs.length (Nat.le_refl _)
  rw [Nat.sub_self] at this
  rw [this]
  show 0 + totR prs cs _ cs.length st ≤ _
  rw [Int.zero_add]
  refine tot_le h hs cs.length 0 st (Nat.le_refl _) h.n1.1 h0 h2 (fun _ => ?_)
  have := (stOK_of hs).2 0 (by have := h.cl.1; omega)
  rw [Nat.sub_self]
  exact this.1
end Go.Proofs.Ytlcnhkhkhlpghaa
