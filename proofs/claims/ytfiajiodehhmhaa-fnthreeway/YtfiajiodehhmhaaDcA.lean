/-
  Lists of DocLine in memory.
-/
import Derived.Test.YtfiajiodehhmhaaLists0
import Derived.Deep.Slices
namespace Go.Proofs.Ytfiajiodehhmhaa
open Go.ChangeShapes Go.WideShapes Go.ChangeAt Go.RowKit Go.Deep
set_option linter.unusedVariables false

structure RDc where
  ar : ByteArray
  un : Int
  am : Int
def zDc : RDc := ⟨ByteArray.empty, 0, 0⟩
/-- One lies in block b from off on, 3 cells. -/
def DcAt (w : World) (b off : Nat) (r : RDc) : Prop :=
  w.cell? ⟨b, off, none⟩ = some (.string r.ar) ∧ w.cell? ⟨b, off + 1, none⟩ = some (.int .i64 r.un) ∧ w.cell? ⟨b, off + 2, none⟩ = some (.int .i64 r.am)
def DcsAt (w : World) (b off : Nat) (rs : List RDc) : Prop := ∀ i, i < rs.length → DcAt w b (off + i * 3) (rs.getD i zDc)
def ReadsDc (B : Nat) (w : World) (a : Option Addr) (rs : List RDc) : Prop := rs = [] ∨ ∃ b off, a = some ⟨b, off, none⟩ ∧ b < B ∧ DcsAt w b off rs
theorem DcAt.below {B : Nat} {w w' : World} {b off : Nat} {r : RDc} (h : DcAt w b off r) (hb : Below B w w') (hB : b < B) : DcAt w' b off r := by
  obtain ⟨h0, h1, h2⟩ := h
  exact ⟨(hb.cell (p := ⟨b, off, none⟩) hB).trans h0, (hb.cell (p := ⟨b, off + 1, none⟩) hB).trans h1, (hb.cell (p := ⟨b, off + 2, none⟩) hB).trans h2⟩
theorem DcsAt.below {B : Nat} {w w' : World} {b off : Nat} {rs : List RDc} (h : DcsAt w b off rs) (hb : Below B w w') (hB : b < B) : DcsAt w' b off rs := fun i hi => (h i hi).below hb hB
theorem ReadsDc.below {B : Nat} {w w' : World} {a : Option Addr} {rs : List RDc} (h : ReadsDc B w a rs) (hb : Below B w w') : ReadsDc B w' a rs := by
  rcases h with h | ⟨b, off, ha, hB, hi⟩
  · exact .inl h
  · exact .inr ⟨b, off, ha, hB, hi.below hb hB⟩
theorem ReadsDc.mono {B B' : Nat} {w : World} {a : Option Addr} {rs : List RDc} (h : ReadsDc B w a rs) (hb : B ≤ B') : ReadsDc B' w a rs := by
  rcases h with h | ⟨b, off, ha, hB, hi⟩
  · exact .inl h
  · exact .inr ⟨b, off, ha, by omega, hi⟩
theorem getDc {p : RDc → Prop} {rs : List RDc} (h : ∀ r ∈ rs, p r) {k : Nat} (hk : k < rs.length) : p (rs.getD k zDc) := by
  have e : rs.getD k zDc = rs[k] := by simp [List.getD_eq_getElem?_getD, hk]
  rw [e]; exact h _ (List.getElem_mem _)
theorem dcNew (w : World) (r0 : ByteArray) (r1 : Int) (r2 : Int) : DcAt (w.alloc (Obj.cells #[.string r0, .int .i64 r1, .int .i64 r2] 80)) w.heap.size 0 ⟨r0, r1, r2⟩ :=
  ⟨by simp, by simp, by simp⟩
def DcOK (r : RDc) : Prop := r.ar.size ≤ 2000000
def DcWide (r : RDc) : Prop := r.ar.size ≤ maxLen ∧ (Lit.int .i64 r.un).wf = true ∧ (Lit.int .i64 r.am).wf = true
end Go.Proofs.Ytfiajiodehhmhaa
