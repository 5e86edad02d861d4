/-
  The numbers of a trace that are there, with their places; the program's iterator through them.
-/
import Derived.Test.YtillkllkekhmfabFlC
import Derived.Test.YtillkllkekhmfabRowG
import Derived.Test.YtillkllkekhmfabRegR
import Derived.Shelf.Abstract
import Derived.Shelf.RegionOpen
import Derived.WalkKit
import Derived.LoopNIn
import Derived.LoopIn
namespace Go.Proofs.Ytillkllkekhmfab
open Go.ChangeShapes Go.WideShapes Go.ChangeAt Go.RowKit Go.Joins Go.Deep Go.Shelf
set_option linter.unusedVariables false
attribute [local go_sem] Oper.semAt_some

/-- A place and a number that is there, as a trace may hold them. -/
def ThOK (x : Nat × Nat) : Prop := x.1 < 4096 ∧ dgF x.2 = true
abbrev TH : Type := { x : Nat × Nat // ThOK x }
instance (x : Nat × Nat) : Decidable (ThOK x) := by unfold ThOK; infer_instance
/-- Those among the first k places. -/
def thT (xs : List Nat) : Nat → List TH
  | 0 => []
  | k + 1 => if h : ThOK (k, xs.getD k 0) then thT xs k ++ [⟨(k, xs.getD k 0), h⟩] else thT xs k
theorem thT_len (xs : List Nat) : ∀ k, (thT xs k).length ≤ k
  | 0 => Nat.le_refl _
  | k + 1 => by
    have := thT_len xs k
    unfold thT
    split
    · rw [List.length_append]; simp; omega
    · omega
theorem thT_next {xs : List Nat} {k : Nat} (h : ThOK (k, xs.getD k 0)) : thT xs (k + 1) = thT xs k ++ [⟨(k, xs.getD k 0), h⟩] := by
  show (if h : ThOK (k, xs.getD k 0) then thT xs k ++ [⟨(k, xs.getD k 0), h⟩] else thT xs k) = _
  rw [dif_pos h]
theorem thT_skip {xs : List Nat} {k : Nat} (h : msF (xs.getD k 0) = true) : thT xs (k + 1) = thT xs k := by
  show (if h : ThOK (k, xs.getD k 0) then thT xs k ++ [⟨(k, xs.getD k 0), h⟩] else thT xs k) = _
  refine dif_neg (fun e => ?_)
  have := in_there e.2
  rw [h] at this
  cases this
/-- What a round keeps: all that lay below, and a box. -/
def Kp1 (n₀ B1 : Nat) (W W' : World) : Prop := Below n₀ W W' ∧ W'.heap[B1]? = W.heap[B1]?
theorem Kp1.trans {n₀ B1 : Nat} {A B C : World} (h : Kp1 n₀ B1 A B) (k : Kp1 n₀ B1 B C) : Kp1 n₀ B1 A C := ⟨h.1.trans k.1, k.2.trans h.2⟩
theorem Kp1.refl (n₀ B1 : Nat) (W : World) : Kp1 n₀ B1 W W := ⟨Below.refl _ _, rfl⟩
theorem Kp1.put {n₀ B1 L : Nat} (h0 : n₀ ≤ L) (h1 : B1 < L) : ∀ (W : World) (l : Nat) (o o' : Obj), L ≤ l → W.heap[l]? = some o → o.isCells = false → o.isWalk = false → Kp1 n₀ B1 W (W.putObj l o') := fun W l o o' hl ho hc hw =>
  ⟨(Below.refl n₀ W).grown (grownBy_putObj' W l o') (by have := (Array.getElem?_eq_some_iff.1 ho).1; omega) (fun k e => by cases e; omega), World.putObj_heap_other (by omega)⟩
theorem grown_below {w w' : World} (h : Below w.heap.size w w') : w.grownBy w' none := ⟨h.os, h.tape, h.output, h.size, fun k hk _ => h.block k hk⟩
end Go.Proofs.Ytillkllkekhmfab
