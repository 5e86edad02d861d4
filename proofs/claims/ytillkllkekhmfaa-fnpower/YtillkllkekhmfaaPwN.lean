/-
  The power of volts and amps as mathematics: each product, difference and sum is rounded on its own, and told.
-/
import Derived.Test.YtillkllkekhmfaaPwC
import Derived.Test.YtillkllkekhmfaaFlV
namespace Go.Proofs.Ytillkllkekhmfaa
open Go.ChangeShapes Go.WideShapes Go.ChangeAt Go.RowKit Go.Joins Go.Deep
set_option linter.unusedVariables false

def AnsPw (w : World) (p : Nat × Nat) (c : Int) (e : Ending) (w' : World) : Prop := e = .returned (.tuple #[.agg #[.float .f64 p.1, .float .f64 p.2], .int .i64 c]) ∧ Below w.heap.size w w'
theorem two_cells {W : World} {b : Nat} {v0 v1 : Value} {t : TypeId} (h : W.heap[b]? = some (.cells #[v0, v1] t (0, 0))) : (W.cell? ⟨b, 0, none⟩ = some v0 ∧ W.frozen? ⟨b, 0, none⟩ = false) ∧ W.cell? ⟨b, 1, none⟩ = some v1 ∧ W.frozen? ⟨b, 1, none⟩ = false :=
  ⟨⟨blkCell h 0 _ rfl, blkFree h 0⟩, blkCell h 1 _ rfl, blkFree h 1⟩
theorem fmul_some {L M x y : Nat} (hM : 53 ≤ M) (hE : M + 2 < 2100) (hL : 2 * L ≤ M + 1074) (hx : FinW (FloatKind.format .f64) L x) (hy : FinW (FloatKind.format .f64) L y) : floatBits .mul .f64 x y = some (fmul x y) ∧ FinW (FloatKind.format .f64) (M + 1) (fmul x y) := by
  obtain ⟨r, h1, h2⟩ := mul_fin (FloatKind.format .f64) hM hE (by rw [lp64]; omega) hx hy
  have e1 : floatBits .mul .f64 x y = some r := h1
  have e2 : fmul x y = r := by unfold fmul; rw [e1]; rfl
  rw [e2]
  exact ⟨e1, h2⟩
theorem fsub_some {L x y : Nat} (hL : 53 ≤ L) (hE : L + 3 < 2100) (hx : FinW (FloatKind.format .f64) L x) (hy : FinW (FloatKind.format .f64) L y) : floatBits .sub .f64 x y = some (fsub x y) ∧ FinW (FloatKind.format .f64) (L + 2) (fsub x y) := by
  obtain ⟨r, h1, h2⟩ := sub_fin (FloatKind.format .f64) hL hE hx hy
  have e1 : floatBits .sub .f64 x y = some r := h1
  have e2 : fsub x y = r := by unfold fsub; rw [e1]; rfl
  rw [e2]
  exact ⟨e1, h2⟩
/-- A product's two parts. -/
def prR (x y u v : Nat) : Nat := fsub (fmul x u) (fmul y v)
def prI (x y u v : Nat) : Nat := fadd (fmul x v) (fmul y u)
theorem pr_some {x y u v : Nat} (hx : FinW (FloatKind.format .f64) 1094 x) (hy : FinW (FloatKind.format .f64) 1094 y) (hu : FinW (FloatKind.format .f64) 1094 u) (hv : FinW (FloatKind.format .f64) 1094 v) :
    floatBits .mul .f64 x u = some (fmul x u) ∧ floatBits .mul .f64 y v = some (fmul y v) ∧ floatBits .mul .f64 x v = some (fmul x v) ∧ floatBits .mul .f64 y u = some (fmul y u) ∧
      (floatBits .sub .f64 (fmul x u) (fmul y v) = some (prR x y u v) ∧ FinW (FloatKind.format .f64) 1117 (prR x y u v)) ∧ floatBits .add .f64 (fmul x v) (fmul y u) = some (prI x y u v) ∧ FinW (FloatKind.format .f64) 1117 (prI x y u v) := by
  obtain ⟨a1, a2⟩ := fmul_some (M := 1114) (by omega) (by omega) (by omega) hx hu
  obtain ⟨b1, b2⟩ := fmul_some (M := 1114) (by omega) (by omega) (by omega) hy hv
  obtain ⟨c1, c2⟩ := fmul_some (M := 1114) (by omega) (by omega) (by omega) hx hv
  obtain ⟨d1, d2⟩ := fmul_some (M := 1114) (by omega) (by omega) (by omega) hy hu
  obtain ⟨e1, e2⟩ := fsub_some (L := 1114 + 1) (by omega) (by omega) a2 b2
  obtain ⟨f1, f2⟩ := fadd_some (L := 1114 + 1) (by omega) (by omega) c2 d2
  exact ⟨a1, b1, c1, d1, ⟨e1, e2⟩, f1, f2⟩
/-- What k places come to. -/
def poT (vs am : List RPw) : Nat → Nat × Nat
  | 0 => (0, 0)
  | k + 1 => (fadd (poT vs am k).1 (prR (vs.getD k zPw).re (vs.getD k zPw).im (am.getD k zPw).re (negF (am.getD k zPw).im)), fadd (poT vs am k).2 (prI (vs.getD k zPw).re (vs.getD k zPw).im (am.getD k zPw).re (negF (am.getD k zPw).im)))
theorem po_pr {vs am : List RPw} (hv : pwsB vs = true) (ha : pwsB am = true) {k : Nat} (h1 : k < vs.length) (h2 : k < am.length) :
    FinW (FloatKind.format .f64) 1094 (vs.getD k zPw).re ∧ FinW (FloatKind.format .f64) 1094 (vs.getD k zPw).im ∧ FinW (FloatKind.format .f64) 1094 (am.getD k zPw).re ∧ FinW (FloatKind.format .f64) 1094 (negF (am.getD k zPw).im) := by
  obtain ⟨a, b⟩ := pw_fin (pws_get hv h1)
  obtain ⟨c, d⟩ := pw_fin (pws_get ha h2)
  exact ⟨a, b, c, negF_fin d⟩
theorem poT_fin {vs am : List RPw} (hv : pwsB vs = true) (ha : pwsB am = true) (he : vs.length = am.length) : ∀ k, k ≤ vs.length → k ≤ 12 → FinW (FloatKind.format .f64) (1117 + 2 * k) (poT vs am k).1 ∧ FinW (FloatKind.format .f64) (1117 + 2 * k) (poT vs am k).2
  | 0, _, _ => ⟨fin_zero _ _, fin_zero _ _⟩
  | k + 1, h1, h2 => by
    obtain ⟨i1, i2⟩ := poT_fin hv ha he k (by omega) (by omega)
    obtain ⟨q1, q2, q3, q4⟩ := po_pr hv ha (k := k) (by omega) (by omega)
    obtain ⟨_, _, _, _, ⟨_, r1⟩, _, r2⟩ := pr_some q1 q2 q3 q4
    exact ⟨(fadd_some (by omega) (by omega) i1 (r1.mono _ (by omega))).2.mono _ (by omega), (fadd_some (by omega) (by omega) i2 (r2.mono _ (by omega))).2.mono _ (by omega)⟩
theorem poT_add {vs am : List RPw} (hv : pwsB vs = true) (ha : pwsB am = true) (he : vs.length = am.length) {k : Nat} (h1 : k < vs.length) (h2 : k < 12) :
    cSumBits .add .f64 (poT vs am k).1 (poT vs am k).2 (prR (vs.getD k zPw).re (vs.getD k zPw).im (am.getD k zPw).re (negF (am.getD k zPw).im)) (prI (vs.getD k zPw).re (vs.getD k zPw).im (am.getD k zPw).re (negF (am.getD k zPw).im)) = some (poT vs am (k + 1)) ∧
    floatBits .add .f64 (poT vs am k).1 (prR (vs.getD k zPw).re (vs.getD k zPw).im (am.getD k zPw).re (negF (am.getD k zPw).im)) = some (poT vs am (k + 1)).1 ∧ floatBits .add .f64 (poT vs am k).2 (prI (vs.getD k zPw).re (vs.getD k zPw).im (am.getD k zPw).re (negF (am.getD k zPw).im)) = some (poT vs am (k + 1)).2 := by
  obtain ⟨i1, i2⟩ := poT_fin hv ha he k (by omega) (by omega)
  obtain ⟨q1, q2, q3, q4⟩ := po_pr hv ha (k := k) (by omega) (by omega)
  obtain ⟨_, _, _, _, ⟨_, r1⟩, _, r2⟩ := pr_some q1 q2 q3 q4
  have a1 := (fadd_some (by omega) (by omega) i1 (r1.mono _ (by omega))).1
  have a2 := (fadd_some (by omega) (by omega) i2 (r2.mono _ (by omega))).1
  refine ⟨?_, a1, a2⟩
  unfold cSumBits
  rw [a1, a2]
  rfl
def poC (vs am : List RPw) : Int := if 4096 < vs.length ∨ 4096 < am.length then 2 else if (pwR vs && pwR am) = true then (if vs.length = am.length then 0 else 3) else 1
def poA (vs am : List RPw) : Nat × Nat := if poC vs am = 0 then poT vs am vs.length else (0, 0)
theorem po_ways (vs am : List RPw) : (4096 < vs.length ∧ poC vs am = 2 ∧ poA vs am = (0, 0)) ∨ (vs.length ≤ 4096 ∧ 4096 < am.length ∧ poC vs am = 2 ∧ poA vs am = (0, 0)) ∨
    (vs.length ≤ 4096 ∧ am.length ≤ 4096 ∧ pwR vs = false ∧ poC vs am = 1 ∧ poA vs am = (0, 0)) ∨ (vs.length ≤ 4096 ∧ am.length ≤ 4096 ∧ pwR vs = true ∧ pwR am = false ∧ poC vs am = 1 ∧ poA vs am = (0, 0)) ∨
    (vs.length ≤ 12 ∧ am.length ≤ 12 ∧ pwR vs = true ∧ pwR am = true ∧ vs.length ≠ am.length ∧ poC vs am = 3 ∧ poA vs am = (0, 0)) ∨ (vs.length ≤ 12 ∧ am.length ≤ 12 ∧ pwR vs = true ∧ pwR am = true ∧ vs.length = am.length ∧ poC vs am = 0 ∧ poA vs am = poT vs am vs.length) := by
  unfold poA poC
  by_cases h : 4096 < vs.length
  · rw [if_pos (.inl h)]; exact .inl ⟨h, rfl, rfl⟩
  · by_cases h' : 4096 < am.length
    · rw [if_pos (.inr h')]; exact .inr (.inl ⟨by omega, h', rfl, rfl⟩)
    · rw [if_neg (by omega)]
      cases h1 : pwR vs
      · exact .inr (.inr (.inl ⟨by omega, by omega, rfl, rfl, rfl⟩))
      · cases h2 : pwR am
        · exact .inr (.inr (.inr (.inl ⟨by omega, by omega, rfl, rfl, rfl, rfl⟩)))
        · have l1 := (pwR_right h1).1
          have l2 := (pwR_right h2).1
          by_cases h3 : vs.length = am.length
          · exact .inr (.inr (.inr (.inr (.inr ⟨l1, l2, rfl, rfl, h3, by rw [if_pos h3]; rfl, by rw [if_pos h3]; rfl⟩))))
          · exact .inr (.inr (.inr (.inr (.inl ⟨l1, l2, rfl, rfl, h3, by rw [if_neg h3]; rfl, by rw [if_neg h3]; rfl⟩))))
end Go.Proofs.Ytillkllkekhmfaa
