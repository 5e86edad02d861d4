/-
  Lists of Alarm in memory.
-/
import Derived.Test.YtillkllkekhmfaaLists0
import Derived.Deep.Slices
namespace Go.Proofs.Ytillkllkekhmfaa
open Go.ChangeShapes Go.WideShapes Go.ChangeAt Go.RowKit Go.Deep
set_option linter.unusedVariables false

structure RAl where
  n : Int
  d : Int
def zAl : RAl := ⟨0, 0⟩
/-- One lies in block b from off on, 2 cells. -/
def AlAt (w : World) (b off : Nat) (r : RAl) : Prop :=
  w.cell? ⟨b, off, none⟩ = some (.int .i64 r.n) ∧ w.cell? ⟨b, off + 1, none⟩ = some (.int .i64 r.d)
def AlsAt (w : World) (b off : Nat) (rs : List RAl) : Prop := ∀ i, i < rs.length → AlAt w b (off + i * 2) (rs.getD i zAl)
def ReadsAl (B : Nat) (w : World) (a : Option Addr) (rs : List RAl) : Prop := rs = [] ∨ ∃ b off, a = some ⟨b, off, none⟩ ∧ b < B ∧ AlsAt w b off rs
theorem AlAt.below {B : Nat} {w w' : World} {b off : Nat} {r : RAl} (h : AlAt w b off r) (hb : Below B w w') (hB : b < B) : AlAt w' b off r := by
  obtain ⟨h0, h1⟩ := h
  exact ⟨(hb.cell (p := ⟨b, off, none⟩) hB).trans h0, (hb.cell (p := ⟨b, off + 1, none⟩) hB).trans h1⟩
theorem AlsAt.below {B : Nat} {w w' : World} {b off : Nat} {rs : List RAl} (h : AlsAt w b off rs) (hb : Below B w w') (hB : b < B) : AlsAt w' b off rs := fun i hi => (h i hi).below hb hB
theorem ReadsAl.below {B : Nat} {w w' : World} {a : Option Addr} {rs : List RAl} (h : ReadsAl B w a rs) (hb : Below B w w') : ReadsAl B w' a rs := by
  rcases h with h | ⟨b, off, ha, hB, hi⟩
  · exact .inl h
  · exact .inr ⟨b, off, ha, hB, hi.below hb hB⟩
theorem ReadsAl.mono {B B' : Nat} {w : World} {a : Option Addr} {rs : List RAl} (h : ReadsAl B w a rs) (hb : B ≤ B') : ReadsAl B' w a rs := by
  rcases h with h | ⟨b, off, ha, hB, hi⟩
  · exact .inl h
  · exact .inr ⟨b, off, ha, by omega, hi⟩
theorem getAl {p : RAl → Prop} {rs : List RAl} (h : ∀ r ∈ rs, p r) {k : Nat} (hk : k < rs.length) : p (rs.getD k zAl) := by
  have e : rs.getD k zAl = rs[k] := by simp [List.getD_eq_getElem?_getD, hk]
  rw [e]; exact h _ (List.getElem_mem _)
theorem alNew (w : World) (r0 : Int) (r1 : Int) : AlAt (w.alloc (Obj.cells #[.int .i64 r0, .int .i64 r1] 39)) w.heap.size 0 ⟨r0, r1⟩ :=
  ⟨by simp, by simp⟩
def AlOK (r : RAl) : Prop := True
def AlWide (r : RAl) : Prop := (Lit.int .i64 r.n).wf = true ∧ (Lit.int .i64 r.d).wf = true
end Go.Proofs.Ytillkllkekhmfaa
