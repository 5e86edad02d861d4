/-
  Lists of Ratio in memory.
-/
import Derived.Test.YtjdjopikljdigaaLists0
import Derived.Deep.Slices
namespace Go.Proofs.Ytjdjopikljdigaa
open Go.ChangeShapes Go.WideShapes Go.ChangeAt Go.RowKit Go.Deep
set_option linter.unusedVariables false

structure RRa where
  n : Int
  d : Int
def zRa : RRa := ⟨0, 0⟩
/-- One lies in block b from off on, 2 cells. -/
def RaAt (w : World) (b off : Nat) (r : RRa) : Prop :=
  w.cell? ⟨b, off, none⟩ = some (.int .i64 r.n) ∧ w.cell? ⟨b, off + 1, none⟩ = some (.int .i64 r.d)
def RasAt (w : World) (b off : Nat) (rs : List RRa) : Prop := ∀ i, i < rs.length → RaAt w b (off + i * 2) (rs.getD i zRa)
def ReadsRa (B : Nat) (w : World) (a : Option Addr) (rs : List RRa) : Prop := rs = [] ∨ ∃ b off, a = some ⟨b, off, none⟩ ∧ b < B ∧ RasAt w b off rs
theorem RaAt.below {B : Nat} {w w' : World} {b off : Nat} {r : RRa} (h : RaAt w b off r) (hb : Below B w w') (hB : b < B) : RaAt w' b off r := by
  obtain ⟨h0, h1⟩ := h
  exact ⟨(hb.cell (p := ⟨b, off, none⟩) hB).trans h0, (hb.cell (p := ⟨b, off + 1, none⟩) hB).trans h1⟩
theorem RasAt.below {B : Nat} {w w' : World} {b off : Nat} {rs : List RRa} (h : RasAt w b off rs) (hb : Below B w w') (hB : b < B) : RasAt w' b off rs := fun i hi => (h i hi).below hb hB
theorem ReadsRa.below {B : Nat} {w w' : World} {a : Option Addr} {rs : List RRa} (h : ReadsRa B w a rs) (hb : Below B w w') : ReadsRa B w' a rs := by
  rcases h with h | ⟨b, off, ha, hB, hi⟩
  · exact .inl h
  · exact .inr ⟨b, off, ha, hB, hi.below hb hB⟩
theorem ReadsRa.mono {B B' : Nat} {w : World} {a : Option Addr} {rs : List RRa} (h : ReadsRa B w a rs) (hb : B ≤ B') : ReadsRa B' w a rs := by
  rcases h with h | ⟨b, off, ha, hB, hi⟩
  · exact .inl h
  · exact .inr ⟨b, off, ha, by omega, hi⟩
theorem getRa {p : RRa → Prop} {rs : List RRa} (h : ∀ r ∈ rs, p r) {k : Nat} (hk : k < rs.length) : p (rs.getD k zRa) := by
  have e : rs.getD k zRa = rs[k] := by simp [List.getD_eq_getElem?_getD, hk]
  rw [e]; exact h _ (List.getElem_mem _)
theorem raNew (w : World) (r0 : Int) (r1 : Int) : RaAt (w.alloc (Obj.cells #[.int .i64 r0, .int .i64 r1] 36)) w.heap.size 0 ⟨r0, r1⟩ :=
  ⟨by simp, by simp⟩
def RaOK (r : RRa) : Prop := True
def RaWide (r : RRa) : Prop := (Lit.int .i64 r.n).wf = true ∧ (Lit.int .i64 r.d).wf = true
end Go.Proofs.Ytjdjopikljdigaa
