/-
  Lists of Rung in memory.
-/
import Derived.Test.YtlkjpemhamemgaaLists0
import Derived.Deep.Slices
namespace Go.Proofs.Ytlkjpemhamemgaa
open Go.ChangeShapes Go.WideShapes Go.ChangeAt Go.RowKit Go.Deep
set_option linter.unusedVariables false

structure RRg where
  fr : Int
  n : Int
  d : Int
def zRg : RRg := ⟨0, 0, 0⟩
/-- One lies in block b from off on, 3 cells. -/
def RgAt (w : World) (b off : Nat) (r : RRg) : Prop :=
  w.cell? ⟨b, off, none⟩ = some (.int .i64 r.fr) ∧ w.cell? ⟨b, off + 1, none⟩ = some (.int .i64 r.n) ∧ w.cell? ⟨b, off + 2, none⟩ = some (.int .i64 r.d)
def RgsAt (w : World) (b off : Nat) (rs : List RRg) : Prop := ∀ i, i < rs.length → RgAt w b (off + i * 3) (rs.getD i zRg)
def ReadsRg (B : Nat) (w : World) (a : Option Addr) (rs : List RRg) : Prop := rs = [] ∨ ∃ b off, a = some ⟨b, off, none⟩ ∧ b < B ∧ RgsAt w b off rs
theorem RgAt.below {B : Nat} {w w' : World} {b off : Nat} {r : RRg} (h : RgAt w b off r) (hb : Below B w w') (hB : b < B) : RgAt w' b off r := by
  obtain ⟨h0, h1, h2⟩ := h
  exact ⟨(hb.cell (p := ⟨b, off, none⟩) hB).trans h0, (hb.cell (p := ⟨b, off + 1, none⟩) hB).trans h1, (hb.cell (p := ⟨b, off + 2, none⟩) hB).trans h2⟩
theorem RgsAt.below {B : Nat} {w w' : World} {b off : Nat} {rs : List RRg} (h : RgsAt w b off rs) (hb : Below B w w') (hB : b < B) : RgsAt w' b off rs := fun i hi => (h i hi).below hb hB
theorem ReadsRg.below {B : Nat} {w w' : World} {a : Option Addr} {rs : List RRg} (h : ReadsRg B w a rs) (hb : Below B w w') : ReadsRg B w' a rs := by
  rcases h with h | ⟨b, off, ha, hB, hi⟩
  · exact .inl h
  · exact .inr ⟨b, off, ha, hB, hi.below hb hB⟩
theorem ReadsRg.mono {B B' : Nat} {w : World} {a : Option Addr} {rs : List RRg} (h : ReadsRg B w a rs) (hb : B ≤ B') : ReadsRg B' w a rs := by
  rcases h with h | ⟨b, off, ha, hB, hi⟩
  · exact .inl h
  · exact .inr ⟨b, off, ha, by omega, hi⟩
theorem getRg {p : RRg → Prop} {rs : List RRg} (h : ∀ r ∈ rs, p r) {k : Nat} (hk : k < rs.length) : p (rs.getD k zRg) := by
  have e : rs.getD k zRg = rs[k] := by simp [List.getD_eq_getElem?_getD, hk]
  rw [e]; exact h _ (List.getElem_mem _)
theorem rgNew (w : World) (r0 : Int) (r1 : Int) (r2 : Int) : RgAt (w.alloc (Obj.cells #[.int .i64 r0, .int .i64 r1, .int .i64 r2] 104)) w.heap.size 0 ⟨r0, r1, r2⟩ :=
  ⟨by simp, by simp, by simp⟩
def RgOK (r : RRg) : Prop := True
def RgWide (r : RRg) : Prop := (Lit.int .i64 r.fr).wf = true ∧ (Lit.int .i64 r.n).wf = true ∧ (Lit.int .i64 r.d).wf = true
end Go.Proofs.Ytlkjpemhamemgaa
