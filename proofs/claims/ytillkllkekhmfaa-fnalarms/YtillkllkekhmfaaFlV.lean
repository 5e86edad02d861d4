/-
  What is above a limit, each part and sum of single precision rounded on its own; nothing of it is missing.
-/
import Derived.Test.YtillkllkekhmfaaFlW
namespace Go.Proofs.Ytillkllkekhmfaa
open Go.ChangeShapes Go.WideShapes Go.ChangeAt Go.RowKit Go.Joins Go.Deep
set_option linter.unusedVariables false
open Ieee

section
variable (f : Format)
def leW (x y : Nat) : Bool := match keyW f x, keyW f y with | some a, some b => decide (a ≤ b) | _, _ => false
theorem w_le (x y : Nat) : (f.order x y == some .lt || f.order x y == some .eq) = leW f x y := by
  rw [order_key]; unfold leW
  cases keyW f x <;> cases keyW f y <;> first | rfl | skip
  rename_i a b
  dsimp only
  rcases Int.lt_trichotomy a b with h | h | h
  · rw [cmp_lt h, decide_eq_true (by omega)]; rfl
  · rw [cmp_eq h, decide_eq_true (by omega)]; rfl
  · rw [cmp_gt h, decide_eq_false (by omega)]; rfl
theorem w_ge (x y : Nat) : (f.order x y == some .gt || f.order x y == some .eq) = leW f y x := by
  rw [order_key]; unfold leW
  cases keyW f x <;> cases keyW f y <;> first | rfl | skip
  rename_i a b
  dsimp only
  rcases Int.lt_trichotomy a b with h | h | h
  · rw [cmp_lt h, decide_eq_false (by omega)]; rfl
  · rw [cmp_eq h, decide_eq_true (by omega)]; rfl
  · rw [cmp_gt h, decide_eq_true (by omega)]; rfl
/-- A number that is not below a nought, or the infinity above. -/
def NonNeg (x : Nat) : Prop := (∃ m i, f.read x = .number false m i) ∨ f.read x = .infinity false
theorem read_inf (he : 1 ≤ f.exponentBits) (neg : Bool) : f.read (f.word neg f.infRung) = .infinity neg := by
  have hi := f.infRung_lt
  have h1 : f.word neg f.infRung / f.signWeight % 2 = neg.toNat := by
    unfold Format.word
    cases neg
    · rw [if_neg (by simp), Nat.div_eq_of_lt (by omega)]; rfl
    · rw [if_pos rfl, Nat.add_div_left _ (by omega), Nat.div_eq_of_lt (by omega)]; rfl
  have h2 : f.word neg f.infRung % f.signWeight = f.infRung := by
    unfold Format.word
    cases neg
    · rw [if_neg (by simp), Nat.mod_eq_of_lt (by omega)]
    · rw [if_pos rfl, Nat.add_mod_left, Nat.mod_eq_of_lt (by omega)]
  have hs : (f.word neg f.infRung / f.signWeight % 2 == 1) = neg := by rw [h1]; cases neg <;> rfl
  have hb : f.binade = 2 ^ f.fractionBits := rfl
  unfold Format.read
  dsimp only
  rw [h2, hs]
  have h3 : ¬ f.infRung < f.binade := fun h => by
    unfold Format.infRung at h
    have h4 : 2 ≤ 2 ^ f.exponentBits := by
      calc 2 = 2 ^ 1 := rfl
        _ ≤ _ := Nat.pow_le_pow_right (by omega) he
    have h5 := Nat.mul_le_mul_right f.binade (show 1 ≤ 2 ^ f.exponentBits - 1 by omega)
    omega
  rw [if_neg h3, if_neg (Nat.lt_irrefl _), if_pos rfl]
theorem near_nonneg (he : 1 ≤ f.exponentBits) (m : Nat) (p : Int) : NonNeg f (f.nearest false m p) := by
  have hw : ∀ r, NonNeg f (f.word false (min r f.infRung)) := fun r => by
    by_cases h : r < f.infRung
    · rw [Nat.min_eq_left (by omega)]
      obtain ⟨m', i, h2, _⟩ := read_word f (neg := false) h
      exact .inl ⟨m', i, h2⟩
    · rw [Nat.min_eq_right (by omega)]
      exact .inr (read_inf f he false)
  unfold Format.nearest
  split
  · have := hw 0
    rwa [Nat.zero_min] at this
  · exact hw _
theorem add_nonneg (he : 1 ≤ f.exponentBits) {x y : Nat} (hx : NonNeg f x) (hy : NonNeg f y) : ∃ r, f.add x y = some r ∧ NonNeg f r := by
  unfold Format.add
  rcases hx with ⟨m, i, hx⟩ | hx <;> rcases hy with ⟨n, j, hy⟩ | hy <;> rw [hx, hy]
  · refine ⟨_, rfl, ?_⟩
    show NonNeg f (f.nearest _ _ _)
    have h1 : ∀ (m k : Nat), (0 : Int) ≤ signed false m k := fun m k => by unfold signed; rw [if_neg (by simp)]; exact Int.natCast_nonneg _
    have h2 := h1 m (i - min i j).toNat
    have h3 := h1 n (j - min i j).toNat
    have e : (if signed false m (i - min i j).toNat + signed false n (j - min i j).toNat = 0 then false && false else decide (signed false m (i - min i j).toNat + signed false n (j - min i j).toNat < 0)) = false := by
      split
      · rfl
      · exact decide_eq_false (by omega)
    rw [e]
    exact near_nonneg f he _ _
  · exact ⟨_, rfl, .inr (read_inf f he false)⟩
  · exact ⟨_, rfl, .inr (read_inf f he false)⟩
  · exact ⟨_, rfl, .inr (read_inf f he false)⟩
theorem mul_nonneg (he : 1 ≤ f.exponentBits) {x y : Nat} (hx : ∃ m i, f.read x = .number false m i) (hy : ∃ m i, f.read y = .number false m i) : ∃ r, f.mul x y = some r ∧ NonNeg f r := by
  obtain ⟨m, i, hx⟩ := hx
  obtain ⟨n, j, hy⟩ := hy
  unfold Format.mul
  rw [hx, hy]
  exact ⟨_, rfl, near_nonneg f he _ _⟩
/-- The difference of two numbers, the first above the second, is not below a nought. -/
theorem sub_above {L x y : Nat} {a b : Int} (hL : f.fractionBits + 1 ≤ L) (hE : L + 3 < 2 ^ f.exponentBits + f.fractionBits) (hx : FinW f L x) (hy : FinW f L y) (ha : keyW f x = some a) (hb : keyW f y = some b) (hab : b < a) :
    ∃ r m i, f.sub x y = some r ∧ f.read r = .number false m i ∧ m * 2 ^ (i - f.leastPlace).toNat < 2 ^ (L + 2) := by
  obtain ⟨s, m, i, h1, h2⟩ := hx
  obtain ⟨t, n, j, h3, h4⟩ := hy
  have hi := (read_number f h1).1
  have hj := (read_number f h3).1
  have ka : signed s m (i - f.leastPlace).toNat = a := by
    unfold keyW at ha; rw [h1] at ha; simpa [keyD] using ha
  have kb : signed t n (j - f.leastPlace).toNat = b := by
    unfold keyW at hb; rw [h3] at hb; simpa [keyD] using hb
  obtain ⟨k, hk⟩ : ∃ k : Nat, min i j = f.leastPlace + (k : Nat) := ⟨(min i j - f.leastPlace).toNat, by omega⟩
  have e1 : (i - f.leastPlace).toNat = (i - min i j).toNat + k := by omega
  have e2 : (j - f.leastPlace).toNat = (j - min i j).toNat + k := by omega
  have eneg : ∀ p, signed (!t) n p = - signed t n p := fun p => by unfold signed; cases t <;> simp
  rw [e1, signed_add] at ka
  rw [e2, signed_add] at kb
  have hp : (0 : Int) < (2 ^ k : Nat) := by have := Nat.two_pow_pos k; omega
  have htot : 0 < signed s m (i - min i j).toNat + signed (!t) n (j - min i j).toNat := by
    rw [eneg]
    have h5 : 0 < (signed s m (i - min i j).toNat + -signed t n (j - min i j).toNat) * (2 ^ k : Nat) := by
      rw [Int.add_mul, Int.neg_mul, ka, kb]; omega
    by_cases h6 : 0 < signed s m (i - min i j).toNat + -signed t n (j - min i j).toNat
    · exact h6
    · have h7 := Int.mul_nonneg (a := -(signed s m (i - min i j).toNat + -signed t n (j - min i j).toNat)) (by omega) (Int.le_of_lt hp)
      rw [Int.neg_mul] at h7
      omega
  obtain ⟨u, M, bb, h5, h6⟩ := sum_fin f s m i (!t) n j hi hj h2 h4
  have hu : u = false := by
    have h7 : (Datum.number s m i).sum (.number (!t) n j) = some (.number (if signed s m (i - min i j).toNat + signed (!t) n (j - min i j).toNat = 0 then s && !t else signed s m (i - min i j).toNat + signed (!t) n (j - min i j).toNat < 0) _ _) := rfl
    rw [h5] at h7
    injection h7 with h7
    injection h7 with h7 _ _
    rw [h7, if_neg (by omega)]
    exact decide_eq_false (by omega)
  subst hu
  obtain ⟨m', i', h7, h8⟩ := near_fin f false M bb (L + 1) (by omega) (by omega) h6
  refine ⟨_, m', i', ?_, h7, h8⟩
  unfold Format.sub
  rw [h1, h3]
  show Option.map _ (Datum.sum _ (Datum.opposite (.number t n j))) = _
  rw [show Datum.opposite (.number t n j) = .number (!t) n j from rfl, h5]
  rfl
end
/-! ### Warm minutes -/
def inG (x lo hi : Nat) : Bool := leW (FloatKind.format .f32) lo x && leW (FloatKind.format .f32) x hi
/-- 1 and 4 of single precision. -/
def loG : Nat := 1065353216
def hiG : Nat := 1082130432
def bsG (x : Nat) : Bool := inG x loG hiG
theorem loG_key : keyW (FloatKind.format .f32) loG = some (2 ^ 149) := by decide +kernel
theorem hiG_key : keyW (FloatKind.format .f32) hiG = some (2 ^ 151) := by decide +kernel
theorem bs_num {x : Nat} (h : bsG x = true) : ∃ m i, (FloatKind.format .f32).read x = .number false m i := by
  unfold bsG inG at h
  rw [Bool.and_eq_true] at h
  obtain ⟨h1, h2⟩ := h
  unfold leW at h1 h2
  rw [loG_key] at h1
  rw [hiG_key] at h2
  cases hk : keyW (FloatKind.format .f32) x with
  | none => rw [hk] at h1; cases h1
  | some a =>
    rw [hk] at h1 h2
    have h3 := of_decide_eq_true h1
    have h4 := of_decide_eq_true h2
    obtain ⟨s, m, i, h5, _⟩ := fin_key (FloatKind.format .f32) (L := 200) (by decide) hk (by omega)
    unfold keyW at hk
    rw [h5] at hk
    simp only [keyD, Option.some.injEq] at hk
    cases s
    · exact ⟨m, i, h5⟩
    · exfalso
      unfold signed at hk
      rw [if_pos rfl] at hk
      have := Int.natCast_nonneg (m <<< (i - (FloatKind.format .f32).leastPlace).toNat)
      omega
def fsub (x y : Nat) : Nat := (floatBits .sub .f64 x y).getD 0
def toG (x : Nat) : Nat := (floatToFloatBits .f64 x .f32).getD 0
def gmul (x y : Nat) : Nat := (floatBits .mul .f32 x y).getD 0
def gadd (x y : Nat) : Nat := (floatBits .add .f32 x y).getD 0
/-- A number above a limit: how far, of single precision. -/
theorem far_some {x y : Nat} (hx : dgF x = true) (hy : dgF y = true) (h : ltF y x = true) : floatBits .sub .f64 x y = some (fsub x y) ∧ floatToFloatBits .f64 (fsub x y) .f32 = some (toG (fsub x y)) ∧ ∃ m i, (FloatKind.format .f32).read (toG (fsub x y)) = .number false m i := by
  have fx := dg_fin hx
  have fy := dg_fin hy
  unfold ltF at h
  cases ka : kF x with
  | none => exfalso; rw [ka] at h; cases kb : kF y <;> rw [kb] at h <;> cases h
  | some a =>
    cases kb : kF y with
    | none => rw [kb] at h; cases h
    | some b =>
      rw [ka, kb] at h
      obtain ⟨r, m, i, h1, h2, h3⟩ := sub_above (FloatKind.format .f64) (by decide) (by decide) fx fy ka kb (of_decide_eq_true h)
      have e1 : floatBits .sub .f64 x y = some r := h1
      have e2 : fsub x y = r := by unfold fsub; rw [e1]; rfl
      rw [e2]
      have hlog : m = 0 ∨ i + m.log2 < (161 : Nat) + (FloatKind.format .f32).leastPlace := by
        by_cases h0 : m = 0
        · exact .inl h0
        · right
          have h4 := log_le h0 h3
          have h5 := (read_number _ h2).1
          have e5 : (FloatKind.format .f64).leastPlace = -1074 := by decide +kernel
          have e6 : (FloatKind.format .f32).leastPlace = -149 := by decide +kernel
          rw [e5] at h4 h5
          rw [e6]
          omega
      obtain ⟨m', i', h7, _⟩ := near_fin (FloatKind.format .f32) false m i 161 (by decide) (by decide) hlog
      have e3 : floatToFloatBits .f64 r .f32 = some ((FloatKind.format .f32).nearest false m i) := by
        unfold floatToFloatBits
        rw [if_neg (by decide), show FloatKind.decode .f64 r = .number false m i from h2]
        dsimp only
        rw [show FloatKind.decode .f32 (FloatKind.encode .f32 (.number false m i)) = .number false m' i' from h7]
        rfl
      have e4 : toG r = (FloatKind.format .f32).nearest false m i := by unfold toG; rw [e3]; rfl
      rw [e4]
      exact ⟨e1, e3, m', i', h7⟩
theorem part_some {x y : Nat} (hx : ∃ m i, (FloatKind.format .f32).read x = .number false m i) (hy : bsG y = true) : floatBits .mul .f32 x y = some (gmul x y) ∧ NonNeg (FloatKind.format .f32) (gmul x y) := by
  obtain ⟨r, h1, h2⟩ := mul_nonneg (FloatKind.format .f32) (by decide) hx (bs_num hy)
  have e1 : floatBits .mul .f32 x y = some r := h1
  have e2 : gmul x y = r := by unfold gmul; rw [e1]; rfl
  rw [e2]
  exact ⟨e1, h2⟩
theorem gadd_some {x y : Nat} (hx : NonNeg (FloatKind.format .f32) x) (hy : NonNeg (FloatKind.format .f32) y) : floatBits .add .f32 x y = some (gadd x y) ∧ NonNeg (FloatKind.format .f32) (gadd x y) := by
  obtain ⟨r, h1, h2⟩ := add_nonneg (FloatKind.format .f32) (by decide) hx hy
  have e1 : floatBits .add .f32 x y = some r := h1
  have e2 : gadd x y = r := by unfold gadd; rw [e1]; rfl
  rw [e2]
  exact ⟨e1, h2⟩
/-- What is not missing of single precision is told of double precision. -/
theorem back_some {x : Nat} (h : NonNeg (FloatKind.format .f32) x) : ∃ r, floatToFloatBits .f32 x .f64 = some r := by
  rcases h with ⟨m, i, h⟩ | h
  · unfold floatToFloatBits
    rw [if_neg (by decide), show FloatKind.decode .f32 x = .number false m i from h]
    dsimp only
    have hlog : m = 0 ∨ i + m.log2 < (1300 : Nat) + (FloatKind.format .f64).leastPlace := by
      by_cases h0 : m = 0
      · exact .inl h0
      · right
        obtain ⟨h1, h2, h3⟩ := read_number _ h
        have h4 : m.log2 < 24 := (Nat.log2_lt h0).2 h2
        have h5 : (i - (FloatKind.format .f32).leastPlace).toNat < 256 := h3
        have e5 : (FloatKind.format .f64).leastPlace = -1074 := by decide +kernel
        have e6 : (FloatKind.format .f32).leastPlace = -149 := by decide +kernel
        rw [e6] at h1 h5
        rw [e5]
        omega
    obtain ⟨m', i', h7, _⟩ := near_fin (FloatKind.format .f64) false m i 1300 (by decide) (by decide) hlog
    rw [show FloatKind.decode .f64 (FloatKind.encode .f64 (.number false m i)) = .number false m' i' from h7]
    exact ⟨_, rfl⟩
  · unfold floatToFloatBits
    rw [if_neg (by decide), show FloatKind.decode .f32 x = .infinity false from h]
    exact ⟨_, rfl⟩
def wmN (lim bs acc x : Nat) : Nat := if ltF lim x = true then gadd acc (gmul (toG (fsub x lim)) bs) else acc
def wmS (lim bs : Nat) (ps : List TH) : Nat := ps.foldl (fun t p => wmN lim bs t p.1.2) 0
theorem wmS_snoc (lim bs : Nat) (ps : List TH) (p : TH) : wmS lim bs (ps ++ [p]) = wmN lim bs (wmS lim bs ps) p.1.2 := by unfold wmS; rw [List.foldl_append]; rfl
theorem zero_nonneg : NonNeg (FloatKind.format .f32) 0 := by
  have h : (match (FloatKind.format .f32).read 0 with | .number false _ _ => true | _ => false) = true := by decide +kernel
  split at h
  · rename_i m i e
    exact .inl ⟨m, i, e⟩
  · cases h
/-- One number more above the limit: each step is told. -/
theorem wm_step {lim bs acc x : Nat} (hl : dgF lim = true) (hb : bsG bs = true) (ha : NonNeg (FloatKind.format .f32) acc) (hx : dgF x = true) (h : ltF lim x = true) :
    floatBits .sub .f64 x lim = some (fsub x lim) ∧ floatToFloatBits .f64 (fsub x lim) .f32 = some (toG (fsub x lim)) ∧ floatBits .mul .f32 (toG (fsub x lim)) bs = some (gmul (toG (fsub x lim)) bs) ∧ floatBits .add .f32 acc (gmul (toG (fsub x lim)) bs) = some (gadd acc (gmul (toG (fsub x lim)) bs)) := by
  obtain ⟨h1, h2, h3⟩ := far_some hx hl h
  obtain ⟨h4, h5⟩ := part_some h3 hb
  exact ⟨h1, h2, h4, (gadd_some ha h5).1⟩
theorem wmS_nonneg {lim bs : Nat} (hl : dgF lim = true) (hb : bsG bs = true) : ∀ ps, NonNeg (FloatKind.format .f32) (wmS lim bs ps) :=
  snoc_ind zero_nonneg (fun ps p h => by
    rw [wmS_snoc]
    unfold wmN
    split
    · rename_i hlt
      obtain ⟨h1, h2, h3⟩ := far_some p.2.2 hl hlt
      exact (gadd_some h (part_some h3 hb).2).2
    · exact h)
/-- What both answer: minutes and a code. -/
def wmC (xs : List Nat) (lim bs : Nat) : Int := if trC xs = 0 then (if (dgF lim && bsG bs) = true then 0 else 1) else trC xs
def wmA (xs : List Nat) (lim bs : Nat) : Nat := if wmC xs lim bs = 0 then wmS lim bs (thT xs xs.length) else 0
theorem wmA_nonneg (xs : List Nat) (lim bs : Nat) : NonNeg (FloatKind.format .f32) (wmA xs lim bs) := by
  unfold wmA
  split
  · rename_i h
    unfold wmC at h
    split at h
    · split at h
      · rename_i h2
        rw [Bool.and_eq_true] at h2
        exact wmS_nonneg h2.1 h2.2 _
      · cases h
    · exact absurd h (by assumption)
  · exact zero_nonneg
end Go.Proofs.Ytillkllkekhmfaa
