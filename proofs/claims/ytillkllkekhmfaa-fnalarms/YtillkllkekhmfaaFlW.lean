/-
  What a watch over numbers tells, as mathematics: how many, the least, the most, the sum, each rounded on its own.
-/
import Derived.Test.YtillkllkekhmfaaFlD
namespace Go.Proofs.Ytillkllkekhmfaa
open Go.ChangeShapes Go.WideShapes Go.ChangeAt Go.RowKit Go.Joins Go.Deep
set_option linter.unusedVariables false

theorem fin_zero (f : Ieee.Format) (L : Nat) : FinW f L 0 := by
  refine ⟨false, 0, f.leastPlace, ?_, ?_⟩
  · unfold Ieee.Format.read
    dsimp only
    rw [Nat.zero_mod, Nat.zero_div, if_pos (show 0 < f.binade from Nat.two_pow_pos _)]
    rfl
  · rw [Nat.zero_mul]
    exact Nat.two_pow_pos _
def fadd (x y : Nat) : Nat := (floatBits .add .f64 x y).getD 0
def fdiv (x y : Nat) : Nat := (floatBits .quo .f64 x y).getD 0
theorem fadd_some {L x y : Nat} (hL : 53 ≤ L) (hE : L + 3 < 2100) (hx : FinW (FloatKind.format .f64) L x) (hy : FinW (FloatKind.format .f64) L y) : floatBits .add .f64 x y = some (fadd x y) ∧ FinW (FloatKind.format .f64) (L + 2) (fadd x y) := by
  obtain ⟨r, h1, h2⟩ := add_fin (FloatKind.format .f64) hL hE hx hy
  have h3 : floatBits .add .f64 x y = some r := h1
  have h4 : fadd x y = r := by unfold fadd; rw [h3]; rfl
  rw [h4]
  exact ⟨h3, h2⟩
def okInt (n : Nat) : Bool := match (FloatKind.format .f64).read (floatOfInt .f64 (n : Int)) with | .number _ m _ => m != 0 | _ => false
theorem okInts : ((List.range 201).all fun n => n == 0 || okInt n) = true := by decide +kernel
theorem int_float {n : Nat} (h0 : 1 ≤ n) (h1 : n ≤ 200) : ∃ t m i, (FloatKind.format .f64).read (floatOfInt .f64 (n : Int)) = .number t m i ∧ m ≠ 0 := by
  have h := okInts
  rw [List.all_eq_true] at h
  have h2 := h n (List.mem_range.2 (by omega))
  rw [Bool.or_eq_true, beq_iff_eq] at h2
  rcases h2 with h2 | h2
  · omega
  unfold okInt at h2
  split at h2
  · rename_i t m i e
    exact ⟨t, m, i, e, by simpa using h2⟩
  · cases h2
theorem fdiv_some {L s c : Nat} (hs : FinW (FloatKind.format .f64) L s) (hc : ∃ t m i, (FloatKind.format .f64).read c = .number t m i ∧ m ≠ 0) : floatBits .quo .f64 s c = some (fdiv s c) := by
  obtain ⟨u, n, j, h1, _⟩ := hs
  obtain ⟨t, m, i, h2, h3⟩ := hc
  have h : ∃ r, floatBits .quo .f64 s c = some r := by
    show ∃ r, Option.map _ (Ieee.Datum.quotient _ ((FloatKind.format .f64).read s) ((FloatKind.format .f64).read c)) = some r
    rw [h1, h2]
    unfold Ieee.Datum.quotient
    simp only [h3, if_false]
    exact ⟨_, rfl⟩
  obtain ⟨r, hr⟩ := h
  unfold fdiv
  rw [hr]; rfl

structure WtS where
  n : Nat
  lo : Nat
  hi : Nat
  s : Nat
def wtN (t : WtS) (x : Nat) : WtS := ⟨t.n + 1, if (decide (t.n = 0) || ltF x t.lo) = true then x else t.lo, if (decide (t.n = 0) || ltF t.hi x) = true then x else t.hi, fadd t.s x⟩
def wtS (ps : List TH) : WtS := ps.foldl (fun t p => wtN t p.1.2) ⟨0, 0, 0, 0⟩
theorem wtS_snoc (ps : List TH) (p : TH) : wtS (ps ++ [p]) = wtN (wtS ps) p.1.2 := by unfold wtS; rw [List.foldl_append]; rfl
theorem snoc_ind {α : Type} {P : List α → Prop} (h0 : P []) (h1 : ∀ l x, P l → P (l ++ [x])) : ∀ l, P l := fun l => by
  have : ∀ n (l : List α), l.length = n → P l := by
    intro n
    induction n with
    | zero => intro l h; cases l with | nil => exact h0 | cons a b => cases h
    | succ n ih =>
      intro l h
      have hne : l ≠ [] := fun e => by rw [e] at h; cases h
      rw [← List.dropLast_concat_getLast hne]
      exact h1 _ _ (ih _ (by rw [List.length_dropLast]; omega))
  exact this _ l rfl
theorem wtS_n : ∀ ps, (wtS ps).n = ps.length := snoc_ind rfl (fun ps p h => by rw [wtS_snoc, List.length_append]; show (wtS ps).n + 1 = _; rw [h]; rfl)
theorem wtS_fin : ∀ ps, ps.length ≤ 300 → FinW (FloatKind.format .f64) (1084 + 2 * ps.length) (wtS ps).s := by
  refine snoc_ind (fun _ => fin_zero _ _) (fun ps p h hl => ?_)
  rw [List.length_append] at hl ⊢
  simp only [List.length_cons, List.length_nil] at hl ⊢
  rw [wtS_snoc]
  exact (fadd_some (by omega) (by omega) (h (by omega)) ((dg_fin p.2.2).mono _ (by omega))).2.mono _ (by omega)
theorem wtS_add (ps : List TH) (p : TH) (hl : ps.length ≤ 300) : floatBits .add .f64 (wtS ps).s p.1.2 = some (fadd (wtS ps).s p.1.2) :=
  (fadd_some (L := 1084 + 2 * ps.length) (by omega) (by omega) (wtS_fin ps hl) ((dg_fin p.2.2).mono _ (by omega))).1
/-- What a watch tells. -/
structure WtA where
  n : Int
  g : Int
  m : Nat
  lo : Nat
  hi : Nat
  c : Int
def wtA (xs : List Nat) : WtA :=
  if trC xs = 0 then
    if (thT xs xs.length).length = 0 then ⟨0, 0, 0, 0, 0, 8⟩
    else ⟨(thT xs xs.length).length, (xs.length : Int) - (thT xs xs.length).length, fdiv (wtS (thT xs xs.length)).s (floatOfInt .f64 ((thT xs xs.length).length : Int)), (wtS (thT xs xs.length)).lo, (wtS (thT xs xs.length)).hi, 0⟩
  else ⟨0, 0, 0, 0, 0, trC xs⟩
theorem trC_right {xs : List Nat} (h : trC xs = 0) : xs.length ≤ 200 ∧ oksF xs = true := by
  unfold trC at h
  split at h
  · cases h
  · split at h
    · rename_i h2; exact tr_right h2
    · cases h
/-- What both answer. -/
def AnsWt (w : World) (r : WtA) (e : Ending) (w' : World) : Prop :=
  e = .returned (.tuple #[.agg #[.int .i64 r.n, .int .i64 r.g, .float .f64 r.m, .float .f64 r.lo, .float .f64 r.hi], .int .i64 r.c]) ∧ Below w.heap.size w w'
end Go.Proofs.Ytillkllkekhmfaa
