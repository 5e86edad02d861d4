/-
  Watches and warm minutes as mathematics, once more: a trace turned round; what is told of a trace; when there are warm minutes.
-/
import Derived.Test.YtillkllkekhmfaaPdT
import Derived.Test.YtillkllkekhmfaaFlV
import Derived.Test.YtillkllkekhmfaaFlP
namespace Go.Proofs.Ytillkllkekhmfaa
open Go.ChangeShapes Go.WideShapes Go.ChangeAt Go.RowKit Go.Joins Go.Deep
set_option linter.unusedVariables false
open Ieee

/-! ### The numbers among what a trace holds -/
def kk (x : Nat) : Int := (kF x).getD 0
theorem lt_kk {x y : Nat} (hx : msF x = false) (hy : msF y = false) : ltF x y = decide (kk x < kk y) := by
  unfold ltF kk
  unfold msF at hx hy
  cases h1 : kF x <;> cases h2 : kF y <;> rw [h1] at hx <;> rw [h2] at hy <;> first | rfl | (simp at hx; done) | (simp at hy; done)
theorem eq_kk {x y : Nat} (hx : msF x = false) (hy : msF y = false) : eqF x y = decide (kk x = kk y) := by
  unfold eqF kk
  unfold msF at hx hy
  cases h1 : kF x <;> cases h2 : kF y <;> rw [h1] at hx <;> rw [h2] at hy <;> first | rfl | (simp at hx; done) | (simp at hy; done)
theorem lt_none {x y : Nat} (h : msF x = true ∨ msF y = true) : ltF x y = false := by
  cases e : ltF x y with
  | false => rfl
  | true =>
    obtain ⟨h1, h2⟩ := lt_there e
    rcases h with h | h
    · rw [h1] at h; cases h
    · rw [h2] at h; cases h
def vsF (xs : List Nat) : List Nat := xs.filter fun x => !msF x
theorem vs_num {xs : List Nat} {x : Nat} (h : x ∈ vsF xs) : msF x = false := by
  have := (List.mem_filter.1 h).2
  simpa using this
theorem vs_rev (xs : List Nat) : vsF xs.reverse = (vsF xs).reverse := by unfold vsF; rw [List.filter_reverse]
theorem thT_vals {xs : List Nat} (hok : oksF xs = true) (hl : xs.length ≤ 4096) : ∀ k, k ≤ xs.length → (thT xs k).map (fun p => p.1.2) = vsF (xs.take k)
  | 0, _ => by rw [List.take_zero]; rfl
  | k + 1, hk => by
    have ih := thT_vals hok hl k (by omega)
    have h1 := oks_get hok (k := k) (by omega)
    have e : xs.take (k + 1) = xs.take k ++ [xs.getD k 0] := by
      rw [List.take_succ_eq_append_getElem (by omega)]
      simp [List.getD_eq_getElem?_getD, show k < xs.length by omega]
    rw [e]
    unfold vsF at ih ⊢
    rw [List.filter_append]
    by_cases hm : msF (xs.getD k 0) = true
    · rw [thT_skip hm, ih]
      generalize xs.getD k 0 = y at *
      simp [hm]
    · have hm' : msF (xs.getD k 0) = false := by simpa using hm
      have hd : dgF (xs.getD k 0) = true := by
        unfold okF at h1
        rw [hm'] at h1
        simpa using h1
      have hto : ThOK (k, xs.getD k 0) := ⟨by show k < 4096; omega, hd⟩
      rw [thT_next hto, List.map_append, ih, show List.map (fun p : TH => p.1.2) [⟨(k, xs.getD k 0), hto⟩] = [xs.getD k 0] from rfl]
      clear hto hd h1 e
      generalize xs.getD k 0 = y at *
      simp [hm']
theorem thT_all {xs : List Nat} (hok : oksF xs = true) (hl : xs.length ≤ 4096) : (thT xs xs.length).map (fun p => p.1.2) = vsF xs := by
  rw [thT_vals hok hl _ (Nat.le_refl _), List.take_of_length_le (Nat.le_refl _)]
def wtV (vs : List Nat) : WtS := vs.foldl wtN ⟨0, 0, 0, 0⟩
theorem wtS_eq (ps : List TH) : wtS ps = wtV (ps.map fun p => p.1.2) := by unfold wtS wtV; rw [List.foldl_map]
theorem wtV_snoc (vs : List Nat) (x : Nat) : wtV (vs ++ [x]) = wtN (wtV vs) x := by unfold wtV; rw [List.foldl_append]; rfl
theorem wtV_n : ∀ vs, (wtV vs).n = vs.length := snoc_ind rfl (fun vs x h => by rw [wtV_snoc, List.length_append]; show (wtV vs).n + 1 = _; rw [h]; rfl)
theorem wtV_ends : ∀ vs : List Nat, (∀ x ∈ vs, msF x = false) → vs ≠ [] → ((wtV vs).lo ∈ vs ∧ (wtV vs).hi ∈ vs) ∧ ∀ x ∈ vs, kk (wtV vs).lo ≤ kk x ∧ kk x ≤ kk (wtV vs).hi := by
  refine snoc_ind (fun _ h => absurd rfl h) (fun vs x ih hn _ => ?_)
  have hx := hn x (by simp)
  have hv : ∀ y ∈ vs, msF y = false := fun y hy => hn y (List.mem_append_left _ hy)
  rw [wtV_snoc]
  unfold wtN
  dsimp only
  by_cases h0 : vs = []
  · subst h0
    rw [show (wtV []).n = 0 from rfl]
    simp
  · obtain ⟨⟨i1, i2⟩, i3⟩ := ih hv h0
    have hn0 : (wtV vs).n ≠ 0 := by rw [wtV_n]; exact fun e => h0 (List.length_eq_zero_iff.1 e)
    rw [decide_eq_false hn0, Bool.false_or, Bool.false_or, lt_kk hx (hv _ i1), lt_kk (hv _ i2) hx]
    have key : ∀ y ∈ vs ++ [x], y ∈ vs ∨ y = x := fun y hy => by simpa using hy
    have j1 := i3 _ i1
    have j2 := i3 _ i2
    refine ⟨⟨?_, ?_⟩, fun y hy => ?_⟩
    · by_cases hc : kk x < kk (wtV vs).lo
      · rw [decide_eq_true hc, if_pos rfl]; simp
      · rw [decide_eq_false hc, if_neg (by simp)]; exact List.mem_append_left _ i1
    · by_cases hc : kk (wtV vs).hi < kk x
      · rw [decide_eq_true hc, if_pos rfl]; simp
      · rw [decide_eq_false hc, if_neg (by simp)]; exact List.mem_append_left _ i2
    · have h3 : y ∈ vs → kk (wtV vs).lo ≤ kk y ∧ kk y ≤ kk (wtV vs).hi := i3 y
      constructor
      · by_cases hc : kk x < kk (wtV vs).lo
        · rw [decide_eq_true hc, if_pos rfl]
          rcases key y hy with h | h
          · have := h3 h; omega
          · rw [h]; omega
        · rw [decide_eq_false hc, if_neg (by simp)]
          rcases key y hy with h | h
          · exact (h3 h).1
          · rw [h]; omega
      · by_cases hc : kk (wtV vs).hi < kk x
        · rw [decide_eq_true hc, if_pos rfl]
          rcases key y hy with h | h
          · have := h3 h; omega
          · rw [h]; omega
        · rw [decide_eq_false hc, if_neg (by simp)]
          rcases key y hy with h | h
          · exact (h3 h).2
          · rw [h]; omega
theorem wtV_turn {vs : List Nat} (hn : ∀ x ∈ vs, msF x = false) (h0 : vs ≠ []) : eqF (wtV vs.reverse).lo (wtV vs).lo = true ∧ eqF (wtV vs.reverse).hi (wtV vs).hi = true := by
  obtain ⟨⟨a1, a2⟩, a3⟩ := wtV_ends vs hn h0
  obtain ⟨⟨b1, b2⟩, b3⟩ := wtV_ends vs.reverse (fun x hx => hn x (by simpa using hx)) (by simpa using h0)
  have b1' : (wtV vs.reverse).lo ∈ vs := by simpa using b1
  have b2' : (wtV vs.reverse).hi ∈ vs := by simpa using b2
  rw [eq_kk (hn _ b1') (hn _ a1), eq_kk (hn _ b2') (hn _ a2)]
  have c1 := a3 _ b1'
  have c2 := a3 _ b2'
  have c3 := b3 (wtV vs).lo (by simpa using a1)
  have c4 := b3 (wtV vs).hi (by simpa using a2)
  exact ⟨decide_eq_true (by omega), decide_eq_true (by omega)⟩

/-! ### The mean is a number -/
def okOne (n : Nat) : Bool := match (FloatKind.format .f64).read (floatOfInt .f64 (n : Int)) with | .number _ m j => m != 0 && decide (0 ≤ j + (m.log2 : Int)) | _ => false
theorem okOnes : ((List.range 201).all fun n => n == 0 || okOne n) = true := by decide +kernel
theorem int_one {n : Nat} (h0 : 1 ≤ n) (h1 : n ≤ 200) : ∃ t m j, (FloatKind.format .f64).read (floatOfInt .f64 (n : Int)) = .number t m j ∧ m ≠ 0 ∧ 0 ≤ j + (m.log2 : Int) := by
  have h := okOnes
  rw [List.all_eq_true] at h
  have h2 := h n (List.mem_range.2 (by omega))
  rw [Bool.or_eq_true, beq_iff_eq] at h2
  rcases h2 with h2 | h2
  · omega
  unfold okOne at h2
  split at h2
  · rename_i t m i e
    rw [Bool.and_eq_true] at h2
    exact ⟨t, m, i, e, by simpa using h2.1, of_decide_eq_true h2.2⟩
  · cases h2
theorem mean_num {L s n : Nat} (hL : 53 ≤ L) (hE : L + 2 < 2100) (hs : FinW (FloatKind.format .f64) L s) (h0 : 1 ≤ n) (h1 : n ≤ 200) : eqF (fdiv s (floatOfInt .f64 (n : Int))) (fdiv s (floatOfInt .f64 (n : Int))) = true := by
  obtain ⟨t, m, j, c1, c2, c3⟩ := int_one h0 h1
  obtain ⟨u, k, i, d1, d2⟩ := hs
  obtain ⟨r, e1, e2⟩ := div_fin (FloatKind.format .f64) (L := L) hL hE d1 c1 c2 (by
    by_cases hk : k = 0
    · exact .inl hk
    · right
      have hlp := (read_number _ d1).1
      have h2 : 2 ^ (k.log2 + (i - (FloatKind.format .f64).leastPlace).toNat) < 2 ^ L := by
        rw [Nat.pow_add]
        exact Nat.lt_of_le_of_lt (Nat.mul_le_mul_right _ (Nat.log2_self_le hk)) d2
      have h3 := (Nat.pow_lt_pow_iff_right (by omega : 1 < 2)).1 h2
      omega)
  have h4 : fdiv s (floatOfInt .f64 (n : Int)) = r := by
    unfold fdiv
    rw [show floatBits .quo .f64 s (floatOfInt .f64 (n : Int)) = some r from e1]; rfl
  rw [h4]
  obtain ⟨a, g1, _⟩ := fin_some (FloatKind.format .f64) e2
  rw [eq_self]
  unfold msF kF
  rw [g1]
  rfl

/-! ### Warm minutes -/
section
variable (f : Format)
def PosW (x : Nat) : Prop := (∃ m i, f.read x = .number false m i ∧ m ≠ 0) ∨ f.read x = .infinity false
theorem word_pos (he : 1 ≤ f.exponentBits) {r : Nat} (h : r ≠ 0) : PosW f (f.word false (min r f.infRung)) := by
  by_cases hr : r < f.infRung
  · rw [Nat.min_eq_left (by omega)]
    obtain ⟨m, i, h2, _, h3⟩ := read_word f (neg := false) hr
    exact .inl ⟨m, i, h2, h3 h⟩
  · rw [Nat.min_eq_right (by omega)]
    exact .inr (read_inf f he false)
theorem near_pos (he : 1 ≤ f.exponentBits) {m : Nat} {p : Int} (hm : m ≠ 0) (hp : f.leastPlace ≤ p) : PosW f (f.nearest false m p) := by
  unfold Format.nearest
  rw [if_neg hm]
  refine word_pos f he ?_
  by_cases hl : f.leastPlace < max (p + m.log2 - f.fractionBits) f.leastPlace
  · have h1 : 1 ≤ (max (p + m.log2 - f.fractionBits) f.leastPlace - f.leastPlace).toNat := by omega
    have h2 : 0 < f.binade := Nat.two_pow_pos _
    have h3 : 0 < (max (p + m.log2 - f.fractionBits) f.leastPlace - f.leastPlace).toNat * f.binade := Nat.mul_pos h1 h2
    omega
  · have h1 : max (p + m.log2 - f.fractionBits) f.leastPlace = f.leastPlace := by omega
    rw [h1]
    have h2 : (f.leastPlace - p).toNat = 0 := by omega
    rw [h2]
    have h3 : Toward.even.cut false (m <<< (p - f.leastPlace).toNat) 0 = m <<< (p - f.leastPlace).toNat := by
      unfold Toward.cut
      simp [Nat.mod_one]
    rw [h3, Nat.shiftLeft_eq]
    have h4 : 0 < m * 2 ^ (p - f.leastPlace).toNat := Nat.mul_pos (by omega) (Nat.two_pow_pos _)
    omega
theorem add_pos (he : 1 ≤ f.exponentBits) {x y : Nat} (hx : NonNeg f x) (hy : NonNeg f y) (h : PosW f x ∨ PosW f y) : ∃ r, f.add x y = some r ∧ PosW f r := by
  unfold Format.add
  rcases hx with ⟨m, i, hx⟩ | hx <;> rcases hy with ⟨n, j, hy⟩ | hy
  · have hmn : m ≠ 0 ∨ n ≠ 0 := by
      rcases h with (⟨m', i', h, hm⟩ | h) | (⟨m', i', h, hm⟩ | h)
      · rw [hx] at h; injection h with _ h _; subst h; exact .inl hm
      · rw [hx] at h; cases h
      · rw [hy] at h; injection h with _ h _; subst h; exact .inr hm
      · rw [hy] at h; cases h
    have hi := (read_number f hx).1
    have hj := (read_number f hy).1
    rw [hx, hy]
    refine ⟨_, rfl, ?_⟩
    show PosW f (f.nearest _ _ _)
    have h1 : ∀ (m k : Nat), signed false m k = ((m * 2 ^ k : Nat) : Int) := fun m k => by unfold signed; rw [if_neg (by simp), Nat.shiftLeft_eq]
    rw [h1, h1]
    have h2 : ∀ (m k : Nat), m ≠ 0 → 0 < m * 2 ^ k := fun m k hm => Nat.mul_pos (by omega) (Nat.two_pow_pos _)
    have h3 : 0 < m * 2 ^ (i - min i j).toNat + n * 2 ^ (j - min i j).toNat := by
      rcases hmn with hm | hn
      · have := h2 m (i - min i j).toNat hm; omega
      · have := h2 n (j - min i j).toNat hn; omega
    generalize m * 2 ^ (i - min i j).toNat = p at *
    generalize n * 2 ^ (j - min i j).toNat = q at *
    have e : (if (p : Int) + (q : Int) = 0 then false && false else decide ((p : Int) + (q : Int) < 0)) = false := by
      split
      · rfl
      · exact decide_eq_false (by omega)
    rw [e]
    exact near_pos f he (by omega) (by omega)
  · rw [hx, hy]; exact ⟨_, rfl, .inr (read_inf f he false)⟩
  · rw [hx, hy]; exact ⟨_, rfl, .inr (read_inf f he false)⟩
  · rw [hx, hy]; exact ⟨_, rfl, .inr (read_inf f he false)⟩
end
def gt0 (x : Nat) : Bool := (FloatKind.format .f32).order x 0 == some .gt
theorem k0_32 : keyW (FloatKind.format .f32) 0 = some 0 := by decide +kernel
theorem pos_gt {x : Nat} (h : PosW (FloatKind.format .f32) x) : ((FloatKind.format .f32).order x 0 == some .gt) = true := by
  rw [order_key, k0_32]
  rcases h with ⟨m, i, h, hm⟩ | h
  · have hk : keyW (FloatKind.format .f32) x = some ((m * 2 ^ (i - (FloatKind.format .f32).leastPlace).toNat : Nat) : Int) := by
      unfold keyW; rw [h]; show some (signed false m _) = _; unfold signed; rw [if_neg (by simp), Nat.shiftLeft_eq]
    rw [hk]
    dsimp only
    rw [cmp_gt (by have := Nat.mul_pos (show 0 < m by omega) (Nat.two_pow_pos (i - (FloatKind.format .f32).leastPlace).toNat); omega)]
    rfl
  · have hk : keyW (FloatKind.format .f32) x = some (bigF (FloatKind.format .f32) : Int) := by unfold keyW; rw [h]; rfl
    rw [hk]
    dsimp only
    rw [cmp_gt (by have := big_pos (FloatKind.format .f32); omega)]
    rfl
theorem nonneg_lt32 {x : Nat} (h : NonNeg (FloatKind.format .f32) x) : ((FloatKind.format .f32).order x 0 == some .lt) = false := by
  rw [order_key, k0_32]
  rcases h with ⟨m, i, h⟩ | h
  · have hk : keyW (FloatKind.format .f32) x = some ((m * 2 ^ (i - (FloatKind.format .f32).leastPlace).toNat : Nat) : Int) := by
      unfold keyW; rw [h]; show some (signed false m _) = _; unfold signed; rw [if_neg (by simp), Nat.shiftLeft_eq]
    rw [hk]
    dsimp only
    generalize m * 2 ^ (i - (FloatKind.format .f32).leastPlace).toNat = q
    by_cases hq : q = 0
    · subst hq; rw [cmp_eq (by omega)]; rfl
    · rw [cmp_gt (by omega)]; rfl
  · have hk : keyW (FloatKind.format .f32) x = some (bigF (FloatKind.format .f32) : Int) := by unfold keyW; rw [h]; rfl
    rw [hk]
    dsimp only
    rw [cmp_gt (by have := big_pos (FloatKind.format .f32); omega)]
    rfl
theorem zero_gt : ((FloatKind.format .f32).order 0 0 == some .gt) = false := by decide +kernel
theorem zero_eq32 : ((FloatKind.format .f32).order 0 0 == some .eq) = true := by decide +kernel
def wmV (lim bs : Nat) (vs : List Nat) : Nat := vs.foldl (wmN lim bs) 0
theorem wmS_eq (lim bs : Nat) (ps : List TH) : wmS lim bs ps = wmV lim bs (ps.map fun p => p.1.2) := by unfold wmS wmV; rw [List.foldl_map]
theorem wmV_snoc (lim bs : Nat) (vs : List Nat) (x : Nat) : wmV lim bs (vs ++ [x]) = wmN lim bs (wmV lim bs vs) x := by unfold wmV; rw [List.foldl_append]; rfl
theorem wmV_zero (lim bs : Nat) : ∀ vs : List Nat, (∀ x ∈ vs, ltF lim x = false) → wmV lim bs vs = 0 := by
  refine snoc_ind (fun _ => rfl) (fun vs x ih h => ?_)
  rw [wmV_snoc, ih (fun y hy => h y (List.mem_append_left _ hy))]
  unfold wmN
  rw [h x (by simp)]
  rfl
def hiV : List Nat := (List.range 11).map fun i : Nat => floatOfInt .f64 (i : Int)
theorem hiV_dg : hiV.all dgF = true := by decide +kernel
theorem hiV_sums : ((List.range 8).all fun i => (List.range 4).all fun j => floatBits .add .f64 (floatOfInt .f64 (i : Int)) (floatOfInt .f64 (j : Int)) == some (floatOfInt .f64 ((i + j : Nat) : Int))) = true := by decide +kernel
theorem hi_in {hi lo : Nat} (h : hiOK hi lo) : hi ∈ hiV := by
  obtain ⟨i, j, h1, h2, rfl, h4⟩ := h
  have h5 := hiV_sums
  rw [List.all_eq_true] at h5
  have h6 := h5 i (List.mem_range.2 h1)
  rw [List.all_eq_true] at h6
  have h7 := h6 j (List.mem_range.2 h2)
  rw [h4, beq_iff_eq] at h7
  injection h7 with h7
  rw [h7]
  exact List.mem_map.2 ⟨i + j, List.mem_range.2 (by omega), rfl⟩
def oneG : Nat := 1065353216
def twoG : Nat := 1073741824
theorem oneG_bs : bsG oneG = true := by decide +kernel
theorem twoG_bs : bsG twoG = true := by decide +kernel
def posB (v : Nat) : Bool := match (FloatKind.format .f32).read v with | .number false m _ => m != 0 | .infinity false => true | _ => false
theorem pos_of {v : Nat} (h : posB v = true) : PosW (FloatKind.format .f32) v := by
  unfold posB at h
  split at h
  · rename_i m i e; exact .inl ⟨m, i, e, by simpa using h⟩
  · rename_i e; exact .inr e
  · cases h
theorem far_pos : (drV.all fun x => hiV.all fun l => !ltF l x || posB (gmul (toG (fsub x l)) oneG)) = true := by decide +kernel
theorem wmV_pos {lim : Nat} (hl : lim ∈ hiV) : ∀ vs : List Nat, (∀ x ∈ vs, x ∈ drV) → NonNeg (FloatKind.format .f32) (wmV lim oneG vs) ∧ ((∃ x ∈ vs, ltF lim x = true) → PosW (FloatKind.format .f32) (wmV lim oneG vs)) := by
  have hld : dgF lim = true := by have := hiV_dg; rw [List.all_eq_true] at this; exact this lim hl
  refine snoc_ind (fun _ => ⟨zero_nonneg, fun ⟨x, hx, _⟩ => by cases hx⟩) (fun vs x ih h => ?_)
  obtain ⟨i1, i2⟩ := ih (fun y hy => h y (List.mem_append_left _ hy))
  have hx := h x (by simp)
  rw [wmV_snoc]
  unfold wmN
  by_cases hlt : ltF lim x = true
  · rw [if_pos hlt]
    have hxd : dgF x = true := by have := drV_ok; rw [List.all_eq_true] at this; exact this x hx
    obtain ⟨h1, h2, h3⟩ := far_some hxd hld hlt
    obtain ⟨h4, h5⟩ := part_some h3 oneG_bs
    have hp : PosW (FloatKind.format .f32) (gmul (toG (fsub x lim)) oneG) := by
      have := far_pos
      rw [List.all_eq_true] at this
      have h6 := this x hx
      rw [List.all_eq_true] at h6
      have h7 := h6 lim hl
      rw [hlt] at h7
      exact pos_of (by simpa using h7)
    obtain ⟨r, e1, e2⟩ := add_pos (FloatKind.format .f32) (by decide) i1 h5 (.inr hp)
    have e3 : gadd (wmV lim oneG vs) (gmul (toG (fsub x lim)) oneG) = r := by unfold gadd; rw [show floatBits .add .f32 _ _ = some r from e1]; rfl
    refine ⟨(gadd_some i1 h5).2, fun _ => ?_⟩
    rw [e3]; exact e2
  · rw [if_neg hlt]
    refine ⟨i1, fun ⟨y, hy, hy2⟩ => ?_⟩
    rcases List.mem_append.1 hy with hv | hv
    · exact i2 ⟨y, hv, hy2⟩
    · have : y = x := by simpa using hv
      rw [this] at hy2
      exact absurd hy2 hlt
end Go.Proofs.Ytillkllkekhmfaa
