/-
  What rules ask, as numbers: the bounds of a field, the least and the greatest number with which terms all hold, rooms as lists of twelve numbers. Nothing of the program is in it.
-/
import Derived.Test.YtfofdeenpcbglaaClA
import Derived.Test.YtfofdeenpcbglaaDlC
namespace Go.Proofs.Ytfofdeenpcbglaa
open Go.ChangeShapes Go.WideShapes Go.ChangeAt Go.RowKit Go.Deep
set_option linter.unusedVariables false

def loF (f : Int) : Int := if f = 1 ∨ f = 4 then 1 else 0
def hiF (f : Int) : Int := if f = 1 then 999 else if f = 2 then 1000000 else if f = 3 then 23 else if f = 4 then 7 else if f = 5 then 120 else 0
def tmB (t : RTm) : Bool := decide ((1 ≤ t.fd ∧ t.fd ≤ 5) ∧ (1 ≤ t.op ∧ t.op ≤ 3) ∧ loF t.fd ≤ t.nu ∧ t.nu ≤ hiF t.fd)
def actB (a n : Int) : Bool := decide ((a = 1 ∧ 0 ≤ n ∧ n ≤ 100) ∨ (a = 2 ∧ 0 ≤ n ∧ n ≤ 1000000000) ∨ (a = 3 ∧ n = 0))
/-- What a rule says, its name and the number of its terms aside. -/
def sayB (c : CCl) : Bool := actB c.ac c.nu && c.ts.all tmB
def clOne (c : CCl) : Bool := decide (c.ts.length ≤ 8) && nameB c.nm && sayB c
def clAll (cs : List CCl) : Bool := if 40 < cs.length then false else diffB (cs.map (·.nm)) && cs.all clOne
theorem tmB_iff {t : RTm} : tmB t = true ↔ ((1 ≤ t.fd ∧ t.fd ≤ 5) ∧ (1 ≤ t.op ∧ t.op ≤ 3) ∧ loF t.fd ≤ t.nu ∧ t.nu ≤ hiF t.fd) := by unfold tmB; exact decide_eq_true_iff

def stepL (f a : Int) (t : RTm) : Int := if t.fd = f ∧ t.op ≠ 2 then max a t.nu else a
def stepH (f a : Int) (t : RTm) : Int := if t.fd = f ∧ t.op ≠ 1 then min a t.nu else a
def lowT (f : Int) (ts : List RTm) : Int := ts.foldl (stepL f) (loF f)
def highT (f : Int) (ts : List RTm) : Int := ts.foldl (stepH f) (hiF f)
theorem lowT_snoc (f : Int) (ts : List RTm) (t : RTm) : lowT f (ts ++ [t]) = stepL f (lowT f ts) t := by simp [lowT]
theorem highT_snoc (f : Int) (ts : List RTm) (t : RTm) : highT f (ts ++ [t]) = stepH f (highT f ts) t := by simp [highT]
theorem foldL_ge (f : Int) : ∀ (ts : List RTm) (a : Int), a ≤ ts.foldl (stepL f) a
  | [], a => Int.le_refl _
  | t :: ts, a => Int.le_trans (by unfold stepL; split <;> omega) (foldL_ge f ts (stepL f a t))
theorem foldH_le (f : Int) : ∀ (ts : List RTm) (a : Int), ts.foldl (stepH f) a ≤ a
  | [], a => Int.le_refl _
  | t :: ts, a => Int.le_trans (foldH_le f ts (stepH f a t)) (by unfold stepH; split <;> omega)
theorem lowT_ge (f : Int) (ts : List RTm) : loF f ≤ lowT f ts := foldL_ge f ts _
theorem highT_le (f : Int) (ts : List RTm) : highT f ts ≤ hiF f := foldH_le f ts _
theorem foldL_max (f : Int) : ∀ (ts : List RTm) (a b : Int), ts.foldl (stepL f) (max a b) = max a (ts.foldl (stepL f) b)
  | [], a, b => rfl
  | t :: ts, a, b => by
    show ts.foldl (stepL f) (stepL f (max a b) t) = max a (ts.foldl (stepL f) (stepL f b t))
    rw [← foldL_max f ts]
    congr 1
    unfold stepL; split <;> omega
theorem foldH_min (f : Int) : ∀ (ts : List RTm) (a b : Int), ts.foldl (stepH f) (min a b) = min a (ts.foldl (stepH f) b)
  | [], a, b => rfl
  | t :: ts, a, b => by
    show ts.foldl (stepH f) (stepH f (min a b) t) = min a (ts.foldl (stepH f) (stepH f b t))
    rw [← foldH_min f ts]
    congr 1
    unfold stepH; split <;> omega
theorem lowT_append (f : Int) (ts us : List RTm) : lowT f (ts ++ us) = max (lowT f ts) (lowT f us) := by
  unfold lowT
  rw [List.foldl_append, ← foldL_max]
  congr 1
  have := foldL_ge f ts (loF f)
  omega
theorem highT_append (f : Int) (ts us : List RTm) : highT f (ts ++ us) = min (highT f ts) (highT f us) := by
  unfold highT
  rw [List.foldl_append, ← foldH_min]
  congr 1
  have := foldH_le f ts (hiF f)
  omega

/-- A room: the least and the greatest number of each field, two noughts ahead. -/
def rm (ts : List RTm) : List Int := [0, 0, lowT 1 ts, highT 1 ts, lowT 2 ts, highT 2 ts, lowT 3 ts, highT 3 ts, lowT 4 ts, highT 4 ts, lowT 5 ts, highT 5 ts]
theorem rm_length (ts : List RTm) : (rm ts).length = 12 := rfl
theorem rm_nil : rm [] = [0, 0, 1, 999, 0, 1000000, 0, 23, 1, 7, 0, 120] := by decide
def spL (t : RTm) : Int := if t.op ≠ 2 then t.nu else loF t.fd
def spH (t : RTm) : Int := if t.op ≠ 1 then t.nu else hiF t.fd
theorem fd_ways {f : Int} (h : 1 ≤ f) (h' : f ≤ 5) : f = 1 ∨ f = 2 ∨ f = 3 ∨ f = 4 ∨ f = 5 := by omega
theorem stepL_sp (t : RTm) (f a : Int) (h : loF f ≤ a) : stepL f a t = if t.fd = f then max a (spL t) else a := by
  unfold stepL spL
  by_cases h1 : t.fd = f
  · by_cases h2 : t.op = 2
    · rw [if_neg (by simp [h2]), if_pos h1, if_neg (by simp [h2]), h1]; omega
    · rw [if_pos ⟨h1, h2⟩, if_pos h1, if_pos h2]
  · rw [if_neg (by simp [h1]), if_neg h1]
theorem stepH_sp (t : RTm) (f a : Int) (h : a ≤ hiF f) : stepH f a t = if t.fd = f then min a (spH t) else a := by
  unfold stepH spH
  by_cases h1 : t.fd = f
  · by_cases h2 : t.op = 1
    · rw [if_neg (by simp [h2]), if_pos h1, if_neg (by simp [h2]), h1]; omega
    · rw [if_pos ⟨h1, h2⟩, if_pos h1, if_pos h2]
  · rw [if_neg (by simp [h1]), if_neg h1]
theorem rm_step (ts : List RTm) (t : RTm) (h : 1 ≤ t.fd ∧ t.fd ≤ 5) :
    rm (ts ++ [t]) = ((rm ts).set (2 * t.fd.toNat) (max ((rm ts).getD (2 * t.fd.toNat) 0) (spL t))).set (2 * t.fd.toNat + 1) (min ((rm ts).getD (2 * t.fd.toNat + 1) 0) (spH t)) := by
  unfold rm
  simp only [lowT_snoc, highT_snoc, stepL_sp t _ _ (lowT_ge _ _), stepH_sp t _ _ (highT_le _ _)]
  rcases fd_ways h.1 h.2 with e | e | e | e | e <;> rw [e] <;> simp
/-- No number is left of some field. -/
def emptyL (L : List Int) : Bool := (List.range 6).any fun i => decide (L.getD (2 * i + 1) 0 < L.getD (2 * i) 0)
def bothL (L M : List Int) : List Int := (List.range 12).map fun i => if i % 2 = 0 then max (L.getD i 0) (M.getD i 0) else min (L.getD i 0) (M.getD i 0)
def covL (L M : List Int) : Bool := (List.range 6).all fun i => decide (L.getD (2 * i) 0 ≤ M.getD (2 * i) 0 ∧ M.getD (2 * i + 1) 0 ≤ L.getD (2 * i + 1) 0)
def hasL (L fs : List Int) : Bool := (List.range 6).all fun i => decide (L.getD (2 * i) 0 ≤ fs.getD i 0 ∧ fs.getD i 0 ≤ L.getD (2 * i + 1) 0)
theorem rm_append (ts us : List RTm) : bothL (rm ts) (rm us) = rm (ts ++ us) := by
  unfold rm
  simp only [lowT_append, highT_append]
  simp [bothL, List.range_succ]
/-- Can terms all hold? -/
def canT (ts : List RTm) : Bool := !emptyL (rm ts)
theorem range6 : List.range 6 = [0, 1, 2, 3, 4, 5] := by decide
theorem emptyL_rm (ts : List RTm) : emptyL (rm ts) = (decide (highT 1 ts < lowT 1 ts) || (decide (highT 2 ts < lowT 2 ts) || (decide (highT 3 ts < lowT 3 ts) || (decide (highT 4 ts < lowT 4 ts) || decide (highT 5 ts < lowT 5 ts))))) := by
  unfold emptyL
  rw [range6]
  simp [rm]
end Go.Proofs.Ytfofdeenpcbglaa
