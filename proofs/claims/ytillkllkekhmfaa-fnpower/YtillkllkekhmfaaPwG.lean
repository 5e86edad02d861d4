/-
  Sums and products of numbers with their signs turned: what a power has when volts and amps are exchanged, and what it has of volts with themselves.
-/
import Derived.Test.YtillkllkekhmfaaPwN
namespace Go.Proofs.Ytillkllkekhmfaa
open Go.ChangeShapes Go.WideShapes Go.ChangeAt Go.RowKit Go.Joins Go.Deep
set_option linter.unusedVariables false
open Ieee

section
variable (f : Format)
/-- Two numbers that are the same but for their signs, which differ unless both are noughts. -/
def OppW (x y : Nat) : Prop := ∃ s t m i, f.read x = .number s m i ∧ f.read y = .number t m i ∧ (m ≠ 0 → t = !s)
theorem OppW.symm {x y : Nat} (h : OppW f x y) : OppW f y x := by
  obtain ⟨s, t, m, i, h1, h2, h3⟩ := h
  exact ⟨t, s, m, i, h2, h1, fun hm => by rw [h3 hm, Bool.not_not]⟩
theorem word_opp (b c : Bool) {r : Nat} (h : r < f.infRung) (hr : r ≠ 0 → c = !b) : OppW f (f.word b r) (f.word c r) := by
  have hi := f.infRung_lt
  have h2 : ∀ neg, f.word neg r % f.signWeight = r := fun neg => by
    unfold Format.word
    cases neg
    · rw [if_neg (by simp), Nat.mod_eq_of_lt (by omega)]
    · rw [if_pos rfl, Nat.add_mod_left, Nat.mod_eq_of_lt (by omega)]
  have h1 : ∀ neg, (f.word neg r / f.signWeight % 2 == 1) = neg := fun neg => by
    unfold Format.word
    cases neg
    · rw [if_neg (by simp), Nat.div_eq_of_lt (by omega)]; rfl
    · rw [if_pos rfl, Nat.add_div_left _ (by omega), Nat.div_eq_of_lt (by omega)]; rfl
  have hp : 0 < f.binade := Nat.two_pow_pos _
  unfold OppW Format.read
  dsimp only
  rw [h1, h1, h2, h2]
  by_cases h3 : r < f.binade
  · rw [if_pos h3, if_pos h3]
    exact ⟨b, c, r, _, rfl, rfl, hr⟩
  · rw [if_neg h3, if_neg h3, if_pos h, if_pos h]
    exact ⟨b, c, _, _, rfl, rfl, fun _ => hr (by omega)⟩
theorem near_opp (he : 1 ≤ f.exponentBits) (b c : Bool) (m : Nat) (p : Int) (hc : m ≠ 0 → c = !b) (hf : ∃ m' i, f.read (f.nearest b m p) = .number b m' i) : OppW f (f.nearest b m p) (f.nearest c m p) := by
  obtain ⟨r, hr, e⟩ : ∃ r, (m = 0 → r = 0) ∧ ∀ d, f.nearest d m p = f.word d (min r f.infRung) := by
    by_cases h0 : m = 0
    · exact ⟨0, fun _ => rfl, fun d => by unfold Format.nearest; rw [if_pos h0, Nat.zero_min]⟩
    · refine ⟨(max (p + m.log2 - f.fractionBits) f.leastPlace - f.leastPlace).toNat * f.binade + Toward.even.cut false (m <<< (p - max (p + m.log2 - f.fractionBits) f.leastPlace).toNat) (max (p + m.log2 - f.fractionBits) f.leastPlace - p).toNat, fun h => absurd h h0, fun d => ?_⟩
      unfold Format.nearest
      rw [if_neg h0]
      rfl
  rw [e, e]
  by_cases hlt : r < f.infRung
  · rw [Nat.min_eq_left (by omega)]
    exact word_opp f b c hlt (fun hr0 => hc (fun h => hr0 (hr h)))
  · exfalso
    obtain ⟨m', i, h⟩ := hf
    rw [e, Nat.min_eq_right (by omega), read_inf f he] at h
    cases h
theorem opp_self {x : Nat} (h : OppW f x x) : keyW f x = some 0 := by
  obtain ⟨s, t, m, i, h1, h2, h3⟩ := h
  rw [h1] at h2
  injection h2 with h4 _ _
  have hm : m = 0 := by
    by_cases hm : m = 0
    · exact hm
    · have := h3 hm
      rw [← h4] at this
      cases s <;> cases this
  unfold keyW
  rw [h1, hm]
  show some (signed s 0 _) = _
  unfold signed
  rw [Nat.zero_shiftLeft]
  cases s <;> rfl
theorem opp_key {x y : Nat} (h : OppW f x y) : ∃ a, keyW f x = some a ∧ keyW f (y ^^^ f.signWeight) = some a := by
  obtain ⟨s, t, m, i, h1, h2, h3⟩ := h
  refine ⟨signed s m (i - f.leastPlace).toNat, by unfold keyW; rw [h1]; rfl, ?_⟩
  unfold keyW
  rw [read_neg, h2]
  show some (signed (!t) m _) = _
  by_cases hm : m = 0
  · rw [hm]; unfold signed; rw [Nat.zero_shiftLeft]; cases s <;> cases t <;> rfl
  · rw [h3 hm, Bool.not_not]
theorem signed_opp {s t : Bool} {m : Nat} (h : m ≠ 0 → t = !s) (k : Nat) : signed t m k = - signed s m k := by
  by_cases hm : m = 0
  · rw [hm]; unfold signed; rw [Nat.zero_shiftLeft]; cases s <;> cases t <;> rfl
  · rw [h hm]; unfold signed; cases s <;> simp
/-- Sums of two pairs with opposite signs. -/
theorem add_opp {L x y x' y' : Nat} (he : 1 ≤ f.exponentBits) (hL : f.fractionBits + 1 ≤ L) (hE : L + 3 < 2 ^ f.exponentBits + f.fractionBits) (hx : FinW f L x) (hy : FinW f L y) (h1 : OppW f x x') (h2 : OppW f y y') : ∃ r r', f.add x y = some r ∧ f.add x' y' = some r' ∧ OppW f r r' := by
  obtain ⟨s, s', m, i, a1, a2, a3⟩ := h1
  obtain ⟨t, t', n, j, b1, b2, b3⟩ := h2
  obtain ⟨s0, m0, i0, c1, c2⟩ := hx
  obtain ⟨t0, n0, j0, d1, d2⟩ := hy
  rw [a1] at c1
  rw [b1] at d1
  injection c1 with _ c3 c4
  injection d1 with _ d3 d4
  subst c3 c4 d3 d4
  have e1 := signed_opp a3 (i - min i j).toNat
  have e2 := signed_opp b3 (j - min i j).toNat
  obtain ⟨u, M, bb, h5, h6⟩ := sum_fin f s m i t n j (read_number f a1).1 (read_number f b1).1 c2 d2
  have hs : (Datum.number s m i).sum (.number t n j) = some (.number (if signed s m (i - min i j).toNat + signed t n (j - min i j).toNat = 0 then s && t else decide (signed s m (i - min i j).toNat + signed t n (j - min i j).toNat < 0)) (signed s m (i - min i j).toNat + signed t n (j - min i j).toNat).natAbs (min i j)) := rfl
  have hs' : (Datum.number s' m i).sum (.number t' n j) = some (.number (if signed s' m (i - min i j).toNat + signed t' n (j - min i j).toNat = 0 then s' && t' else decide (signed s' m (i - min i j).toNat + signed t' n (j - min i j).toNat < 0)) (signed s' m (i - min i j).toNat + signed t' n (j - min i j).toNat).natAbs (min i j)) := rfl
  rw [e1, e2] at hs'
  generalize signed s m (i - min i j).toNat = p at *
  generalize signed t n (j - min i j).toNat = q at *
  have hn : (-p + -q).natAbs = (p + q).natAbs := by omega
  rw [hn] at hs'
  rw [hs] at h5
  injection h5 with h5
  injection h5 with f1 f2 f3
  subst f2 f3
  obtain ⟨m', i', g1, _⟩ := near_fin f u (p + q).natAbs (min i j) (L + 1) (by omega) (by omega) h6
  rw [← f1] at g1
  refine ⟨_, _, by unfold Format.add; rw [a1, b1, hs]; rfl, by unfold Format.add; rw [a2, b2, hs']; rfl, near_opp f he _ _ _ _ (fun h0 => ?_) ⟨m', i', g1⟩⟩
  have h0' : ¬ p + q = 0 := fun e => h0 (by rw [e]; rfl)
  rw [if_neg h0', if_neg (by omega)]
  by_cases hlt : p + q < 0
  · rw [decide_eq_true hlt, decide_eq_false (by omega)]; rfl
  · rw [decide_eq_false hlt, decide_eq_true (by omega)]; rfl
theorem sum_comm (d e : Datum) : d.sum e = e.sum d := by
  cases d with
  | nan s t => cases e <;> rfl
  | infinity s =>
    cases e with
    | nan t u => rfl
    | infinity t =>
      show (if s = t then _ else _) = (if t = s then _ else _)
      by_cases h : s = t
      · rw [if_pos h, if_pos h.symm, h]
      · rw [if_neg h, if_neg (fun e => h e.symm)]
    | number t n j => rfl
  | number s m i =>
    cases e with
    | nan t u => rfl
    | infinity t => rfl
    | number t n j =>
      show some (Datum.number (if signed s m (i - min i j).toNat + signed t n (j - min i j).toNat = 0 then s && t else decide (signed s m (i - min i j).toNat + signed t n (j - min i j).toNat < 0)) (signed s m (i - min i j).toNat + signed t n (j - min i j).toNat).natAbs (min i j)) = some (Datum.number (if signed t n (j - min j i).toNat + signed s m (i - min j i).toNat = 0 then t && s else decide (signed t n (j - min j i).toNat + signed s m (i - min j i).toNat < 0)) (signed t n (j - min j i).toNat + signed s m (i - min j i).toNat).natAbs (min j i))
      rw [Int.min_comm j i, Int.add_comm (signed t n _), Bool.and_comm t s]
theorem add_comm (x y : Nat) : f.add x y = f.add y x := by unfold Format.add; rw [sum_comm]
/-- The products of two pairs, one of each with its sign turned. -/
theorem mul_turn {x y : Nat} {s t : Bool} {m n : Nat} {i j : Int} (hx : f.read x = .number s m i) (hy : f.read y = .number t n j) : f.mul x (y ^^^ f.signWeight) = some (f.nearest (s ^^ !t) (m * n) (i + j)) ∧ f.mul (x ^^^ f.signWeight) y = some (f.nearest (!s ^^ t) (m * n) (i + j)) ∧ f.mul x y = some (f.nearest (s ^^ t) (m * n) (i + j)) := by
  refine ⟨?_, ?_, ?_⟩ <;> unfold Format.mul <;> simp only [read_neg, hx, hy] <;> rfl
theorem mul_comm (x y : Nat) : f.mul x y = f.mul y x := by
  unfold Format.mul
  congr 1
  cases f.read x with
  | nan s t => cases f.read y <;> rfl
  | infinity s =>
    cases f.read y with
    | nan t u => rfl
    | infinity t => exact congrArg (fun b => some (Datum.infinity b)) (Bool.xor_comm s t)
    | number t n j => rfl
  | number s m i =>
    cases f.read y with
    | nan t u => rfl
    | infinity t => rfl
    | number t n j =>
      show some (Datum.number (s ^^ t) (m * n) (i + j)) = some (Datum.number (t ^^ s) (n * m) (j + i))
      rw [Bool.xor_comm, Nat.mul_comm, Int.add_comm]
end
abbrev Op64 (x y : Nat) : Prop := OppW (FloatKind.format .f64) x y
theorem fmul_comm (x y : Nat) : fmul x y = fmul y x := by
  unfold fmul
  rw [show floatBits .mul .f64 x y = floatBits .mul .f64 y x from mul_comm (FloatKind.format .f64) x y]
theorem fadd_comm (x y : Nat) : fadd x y = fadd y x := by
  unfold fadd
  rw [show floatBits .add .f64 x y = floatBits .add .f64 y x from add_comm (FloatKind.format .f64) x y]
/-- x (-v) and v x have opposite signs; x (-v) is v (-x). -/
theorem fmul_neg {x v : Nat} (hx : FinW (FloatKind.format .f64) 1094 x) (hv : FinW (FloatKind.format .f64) 1094 v) : Op64 (fmul x (negF v)) (fmul v x) ∧ fmul x (negF v) = fmul v (negF x) := by
  have h2 := (fmul_some (M := 1114) (by omega) (by omega) (by omega) hx (negF_fin hv)).2
  obtain ⟨s, m, i, h1, _⟩ := hx
  obtain ⟨t, n, j, h3, _⟩ := hv
  obtain ⟨k1, k2, k3⟩ := mul_turn (FloatKind.format .f64) h1 h3
  obtain ⟨l1, l2, l3⟩ := mul_turn (FloatKind.format .f64) h3 h1
  have e1 : fmul x (negF v) = (FloatKind.format .f64).nearest (s ^^ !t) (m * n) (i + j) := by
    unfold fmul; rw [show floatBits .mul .f64 x (negF v) = _ from k1]; rfl
  have e2 : fmul v x = (FloatKind.format .f64).nearest (t ^^ s) (n * m) (j + i) := by
    unfold fmul; rw [show floatBits .mul .f64 v x = _ from l3]; rfl
  have e3 : fmul v (negF x) = (FloatKind.format .f64).nearest (t ^^ !s) (n * m) (j + i) := by
    unfold fmul; rw [show floatBits .mul .f64 v (negF x) = _ from l1]; rfl
  rw [e1] at h2
  refine ⟨?_, ?_⟩
  · rw [e1, e2, Nat.mul_comm n m, Int.add_comm j i]
    refine near_opp (FloatKind.format .f64) (by decide) _ _ _ _ (fun _ => by cases s <;> cases t <;> rfl) ?_
    obtain ⟨b, m', i', q, _⟩ := h2
    refine ⟨m', i', ?_⟩
    have hb : b = (s ^^ !t) := by
      have hw : ∀ d, ∃ r, (FloatKind.format .f64).nearest d (m * n) (i + j) = (FloatKind.format .f64).word d (min r (FloatKind.format .f64).infRung) := fun d => by
        by_cases h0 : m * n = 0
        · exact ⟨0, by unfold Format.nearest; rw [if_pos h0, Nat.zero_min]⟩
        · exact ⟨_, by unfold Format.nearest; rw [if_neg h0]⟩
      obtain ⟨r, hr⟩ := hw (s ^^ !t)
      rw [hr] at q
      by_cases hlt : r < (FloatKind.format .f64).infRung
      · rw [Nat.min_eq_left (by omega)] at q
        obtain ⟨m2, i2, q2, _⟩ := read_word (FloatKind.format .f64) (neg := (s ^^ !t)) hlt
        rw [q] at q2
        injection q2
      · rw [Nat.min_eq_right (by omega), read_inf _ (by decide)] at q
        cases q
    rw [← hb]
    rw [hb]
    rw [hb] at q
    exact q
  · rw [e1, e3, Nat.mul_comm n m, Int.add_comm j i]
    congr 1
    cases s <;> cases t <;> rfl
/-- Volts and amps exchanged: the first part is the same, the second's sign turns. -/
theorem po_swap {vs am : List RPw} (hv : pwsB vs = true) (ha : pwsB am = true) (he : vs.length = am.length) : ∀ k, k ≤ vs.length → k ≤ 12 → (poT vs am k).1 = (poT am vs k).1 ∧ Op64 (poT vs am k).2 (poT am vs k).2
  | 0, _, _ => ⟨rfl, by
    have h := fin_zero (FloatKind.format .f64) 100
    have hz : (FloatKind.format .f64).read 0 = .number false 0 (FloatKind.format .f64).leastPlace := by decide +kernel
    exact ⟨false, false, 0, _, hz, hz, fun h => absurd rfl h⟩⟩
  | k + 1, h1, h2 => by
    obtain ⟨i1, i2⟩ := po_swap hv ha he k (by omega) (by omega)
    obtain ⟨q1, q2, q3, q4⟩ := po_pr hv ha (k := k) (by omega) (by omega)
    obtain ⟨_, p2, _, p4⟩ := po_pr ha hv (k := k) (by omega) (by omega)
    obtain ⟨_, _, _, _, ⟨_, r1⟩, _, r2⟩ := pr_some q1 q2 q3 q4
    obtain ⟨f1, f2⟩ := poT_fin hv ha he k (by omega) (by omega)
    obtain ⟨a1, a2⟩ := fmul_neg q1 p2
    obtain ⟨b1, b2⟩ := fmul_neg q3 q2
    obtain ⟨c1, c2⟩ := fmul_neg q2 p2
    have hR : prR (vs.getD k zPw).re (vs.getD k zPw).im (am.getD k zPw).re (negF (am.getD k zPw).im) = prR (am.getD k zPw).re (am.getD k zPw).im (vs.getD k zPw).re (negF (vs.getD k zPw).im) := by
      unfold prR
      rw [fmul_comm (vs.getD k zPw).re, c2]
    have hI : Op64 (prI (vs.getD k zPw).re (vs.getD k zPw).im (am.getD k zPw).re (negF (am.getD k zPw).im)) (prI (am.getD k zPw).re (am.getD k zPw).im (vs.getD k zPw).re (negF (vs.getD k zPw).im)) := by
      unfold prI
      rw [fadd_comm (fmul (am.getD k zPw).re _)]
      have g1 := (fmul_some (M := 1114) (by omega) (by omega) (by omega) q1 q4).2
      have g2 := (fmul_some (M := 1114) (by omega) (by omega) (by omega) q2 q3).2
      obtain ⟨r, r', k1, k2, k3⟩ := add_opp (FloatKind.format .f64) (L := 1114 + 1) (by decide) (by decide) (by decide) g1 g2 a1 b1.symm
      have m1 : fadd (fmul (vs.getD k zPw).re (negF (am.getD k zPw).im)) (fmul (vs.getD k zPw).im (am.getD k zPw).re) = r := by unfold fadd; rw [show floatBits .add .f64 _ _ = some r from k1]; rfl
      have m2 : fadd (fmul (am.getD k zPw).im (vs.getD k zPw).re) (fmul (am.getD k zPw).re (negF (vs.getD k zPw).im)) = r' := by unfold fadd; rw [show floatBits .add .f64 _ _ = some r' from k2]; rfl
      rw [m1, m2]
      exact k3
    refine ⟨?_, ?_⟩
    · show fadd _ _ = fadd _ _
      rw [i1, hR]
    · obtain ⟨r, r', k1, k2, k3⟩ := add_opp (FloatKind.format .f64) (L := 1117 + 2 * k) (by decide) (by show 53 ≤ _; omega) (by show _ < 2100; omega) f2 (r2.mono _ (by omega)) i2 hI
      have m1 : (poT vs am (k + 1)).2 = r := by show fadd _ _ = r; unfold fadd; rw [show floatBits .add .f64 _ _ = some r from k1]; rfl
      have m2 : (poT am vs (k + 1)).2 = r' := by show fadd _ _ = r'; unfold fadd; rw [show floatBits .add .f64 _ _ = some r' from k2]; rfl
      rw [m1, m2]
      exact k3
end Go.Proofs.Ytillkllkekhmfaa
