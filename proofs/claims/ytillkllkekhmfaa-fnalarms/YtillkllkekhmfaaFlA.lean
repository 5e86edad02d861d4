/-
  Numbers of double precision: which are missing, how they stand to each other; lists of them in memory.
-/
import Derived.Test.YtillkllkekhmfaaFlM
import Derived.Test.YtillkllkekhmfaaLists0
import Derived.Deep.Slices
namespace Go.Proofs.Ytillkllkekhmfaa
open Go.ChangeShapes Go.WideShapes Go.ChangeAt Go.RowKit Go.Joins Go.Deep
set_option linter.unusedVariables false

theorem run_store_float {P : Program} {w : World} {a : Addr} {m : Mode} (k : FloatKind) (n : Nat) : (store a (.float k n) m).run P w = stored P w a (.float k n) m := run_store P w a _ m rfl
/-- The word as a whole number of least steps; none of a word that is not a number. -/
def kF (x : Nat) : Option Int := keyW (FloatKind.format .f64) x
def msF (x : Nat) : Bool := (kF x).isNone
def eqF (x y : Nat) : Bool := match kF x, kF y with | some a, some b => decide (a = b) | _, _ => false
def ltF (x y : Nat) : Bool := match kF x, kF y with | some a, some b => decide (a < b) | _, _ => false
def leF (x y : Nat) : Bool := match kF x, kF y with | some a, some b => decide (a ≤ b) | _, _ => false
theorem ord_k (x y : Nat) : (FloatKind.format .f64).order x y = match kF x, kF y with | some a, some b => some (compare a b) | _, _ => none := order_key _ x y
theorem o_eq (x y : Nat) : ((FloatKind.format .f64).order x y == some .eq) = eqF x y := by
  rw [ord_k]; unfold eqF
  cases kF x <;> cases kF y <;> first | rfl | skip
  rename_i a b
  dsimp only
  rcases Int.lt_trichotomy a b with h | h | h
  · rw [cmp_lt h, decide_eq_false (by omega)]; rfl
  · rw [cmp_eq h, decide_eq_true h]; rfl
  · rw [cmp_gt h, decide_eq_false (by omega)]; rfl
theorem o_lt (x y : Nat) : ((FloatKind.format .f64).order x y == some .lt) = ltF x y := by
  rw [ord_k]; unfold ltF
  cases kF x <;> cases kF y <;> first | rfl | skip
  rename_i a b
  dsimp only
  rcases Int.lt_trichotomy a b with h | h | h
  · rw [cmp_lt h, decide_eq_true h]; rfl
  · rw [cmp_eq h, decide_eq_false (by omega)]; rfl
  · rw [cmp_gt h, decide_eq_false (by omega)]; rfl
theorem o_gt (x y : Nat) : ((FloatKind.format .f64).order x y == some .gt) = ltF y x := by
  rw [ord_k]; unfold ltF
  cases kF x <;> cases kF y <;> first | rfl | skip
  rename_i a b
  dsimp only
  rcases Int.lt_trichotomy a b with h | h | h
  · rw [cmp_lt h, decide_eq_false (by omega)]; rfl
  · rw [cmp_eq h, decide_eq_false (by omega)]; rfl
  · rw [cmp_gt h, decide_eq_true h]; rfl
theorem or_le (x y : Nat) : (ltF x y || eqF x y) = leF x y := by
  unfold ltF eqF leF
  cases kF x <;> cases kF y <;> first | rfl | skip
  rename_i a b
  dsimp only
  rw [Bool.eq_iff_iff]
  simp only [Bool.or_eq_true, decide_eq_true_eq]
  omega
theorem or_ge (x y : Nat) : (ltF y x || eqF x y) = leF y x := by
  unfold ltF eqF leF
  cases kF x <;> cases kF y <;> first | rfl | skip
  rename_i a b
  dsimp only
  rw [Bool.eq_iff_iff]
  simp only [Bool.or_eq_true, decide_eq_true_eq]
  omega
theorem o_le (x y : Nat) : ((FloatKind.format .f64).order x y == some .lt || (FloatKind.format .f64).order x y == some .eq) = leF x y := by rw [o_lt, o_eq, or_le]
theorem o_ge (x y : Nat) : ((FloatKind.format .f64).order x y == some .gt || (FloatKind.format .f64).order x y == some .eq) = leF y x := by rw [o_gt, o_eq, or_ge]
theorem o_ne (x y : Nat) : ((FloatKind.format .f64).order x y != some .eq) = !eqF x y := by rw [← o_eq]; rfl
theorem eq_self (x : Nat) : eqF x x = !msF x := by
  unfold eqF msF
  cases kF x <;> simp
theorem o_ms (x : Nat) : ((FloatKind.format .f64).order x x != some .eq) = msF x := by rw [o_ne, eq_self, Bool.not_not]
theorem o_th (x : Nat) : ((FloatKind.format .f64).order x x == some .eq) = !msF x := by rw [o_eq, eq_self]
theorem lt_there {x y : Nat} (h : ltF x y = true) : msF x = false ∧ msF y = false := by
  unfold ltF at h
  unfold msF
  cases hx : kF x <;> cases hy : kF y <;> simp [hx, hy] at h ⊢
theorem not_le {x y : Nat} (hx : msF x = false) (hy : msF y = false) : leF x y = !ltF y x := by
  unfold msF at hx hy
  unfold leF ltF
  cases h1 : kF x
  · rw [h1] at hx; cases hx
  cases h2 : kF y
  · rw [h2] at hy; cases hy
  dsimp only
  rw [← decide_not]
  exact decide_eq_decide.2 (by omega)
theorem not_lt {x y : Nat} (hx : msF x = false) (hy : msF y = false) : ltF x y = !leF y x := by rw [not_le hy hx, Bool.not_not]
/-- A number within bounds; what is missing is not. -/
def inF (x lo hi : Nat) : Bool := leF lo x && leF x hi
theorem in_there {x lo hi : Nat} (h : inF x lo hi = true) : msF x = false := by
  unfold inF leF at h
  unfold msF
  cases hx : kF x
  · rw [hx] at h; cases kF lo <;> simp at h
  · rfl
/-- -1000 and 1000. -/
def loF : Nat := 13875379345695965184
def hiF : Nat := 4652007308841189376
def dgF (x : Nat) : Bool := inF x loF hiF
/-- The least steps in one. -/
def oneS : Nat := 2 ^ 1074
theorem oneS_pos : 0 < oneS := by decide +kernel
theorem lo_key : kF loF = some (-(1000 * (oneS : Int))) := by decide +kernel
theorem hi_key : kF hiF = some (1000 * (oneS : Int)) := by decide +kernel
theorem oneS_1024 : (2 : Nat) ^ 1084 = 1024 * oneS := by decide +kernel
/-- Numbers within bounds are less than 2 ^ 10. -/
theorem dg_fin {x : Nat} (h : dgF x = true) : FinW (FloatKind.format .f64) 1084 x := by
  have h2 := h
  unfold dgF inF at h2
  rw [Bool.and_eq_true] at h2
  obtain ⟨h3, h4⟩ := h2
  have hx := in_there h
  unfold msF at hx
  cases hk : kF x with
  | none => rw [hk] at hx; cases hx
  | some a =>
    unfold leF at h3 h4
    rw [hk, lo_key] at h3
    rw [hk, hi_key] at h4
    have h5 := of_decide_eq_true h3
    have h6 := of_decide_eq_true h4
    refine fin_key _ (by decide) hk ?_
    rw [oneS_1024]
    have h7 := oneS_pos
    generalize oneS = Q at *
    omega

/-! ### Lists in memory -/
def FltsAt (w : World) (b off : Nat) (xs : List Nat) : Prop := ∀ i, i < xs.length → w.cell? ⟨b, off + i, none⟩ = some (.float .f64 (xs.getD i 0))
def ReadsF (B : Nat) (w : World) (a : Option Addr) (xs : List Nat) : Prop := xs = [] ∨ ∃ b off, a = some ⟨b, off, none⟩ ∧ b < B ∧ FltsAt w b off xs
theorem FltsAt.below {B : Nat} {w w' : World} {b off : Nat} {xs : List Nat} (h : FltsAt w b off xs) (hb : Below B w w') (hB : b < B) : FltsAt w' b off xs := fun i hi => (hb.cell (p := ⟨b, off + i, none⟩) hB).trans (h i hi)
theorem ReadsF.below {B : Nat} {w w' : World} {a : Option Addr} {xs : List Nat} (h : ReadsF B w a xs) (hb : Below B w w') : ReadsF B w' a xs := by
  rcases h with h | ⟨b, off, ha, hB, hi⟩
  · exact .inl h
  · exact .inr ⟨b, off, ha, hB, hi.below hb hB⟩
theorem ReadsF.mono {B B' : Nat} {w : World} {a : Option Addr} {xs : List Nat} (h : ReadsF B w a xs) (hb : B ≤ B') : ReadsF B' w a xs := by
  rcases h with h | ⟨b, off, ha, hB, hi⟩
  · exact .inl h
  · exact .inr ⟨b, off, ha, by omega, hi⟩
theorem ReadsF.later {w W : World} {a : Option Addr} {L : List Nat} (h : ReadsF w.heap.size w a L) (hb : Below w.heap.size w W) : ReadsF W.heap.size W a L := (h.below hb).mono hb.size

/-! ### Traces -/
/-- A number of a trace: missing, or within bounds. -/
def okF (x : Nat) : Bool := msF x || dgF x
def oksF (xs : List Nat) : Bool := xs.all okF
def trB (xs : List Nat) : Bool := decide (xs.length ≤ 200) && oksF xs
/-- What all that is asked of a trace looks for first. -/
def trC (xs : List Nat) : Int := if 4096 < xs.length then 2 else if trB xs = true then 0 else 1
theorem oks_take (xs : List Nat) (k : Nat) (h : k < xs.length) : oksF (xs.take (k + 1)) = (oksF (xs.take k) && okF (xs.getD k 0)) := by
  unfold oksF
  rw [List.take_succ_eq_append_getElem h, List.all_append]
  have e : xs.getD k 0 = xs[k] := by simp [List.getD_eq_getElem?_getD, h]
  rw [e]; simp
theorem oks_fail {xs : List Nat} {k : Nat} (h : k < xs.length) (hf : okF (xs.getD k 0) = false) : oksF xs = false := by
  rw [Bool.eq_false_iff]
  intro ht
  have e : xs.getD k 0 = xs[k] := by simp [List.getD_eq_getElem?_getD, h]
  unfold oksF at ht
  rw [List.all_eq_true] at ht
  rw [e] at hf
  rw [ht _ (List.getElem_mem h)] at hf
  cases hf
theorem oks_get {xs : List Nat} (h : oksF xs = true) {k : Nat} (hk : k < xs.length) : okF (xs.getD k 0) = true := by
  cases hf : okF (xs.getD k 0)
  · rw [oks_fail hk hf] at h; cases h
  · rfl
theorem tr_right {xs : List Nat} (h : trB xs = true) : xs.length ≤ 200 ∧ oksF xs = true := by
  unfold trB at h
  rw [Bool.and_eq_true, decide_eq_true_eq] at h
  exact h
theorem tr_bad {xs : List Nat} (h : 200 < xs.length ∨ oksF xs = false) : trB xs = false := by
  unfold trB
  rcases h with h | h
  · rw [decide_eq_false (by omega)]; rfl
  · rw [h, Bool.and_false]
end Go.Proofs.Ytillkllkekhmfaa
