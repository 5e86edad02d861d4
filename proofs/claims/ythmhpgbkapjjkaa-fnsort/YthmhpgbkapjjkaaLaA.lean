/-
  Lists of Lane in memory.
-/
import Derived.Test.YthmhpgbkapjjkaaLists0
import Derived.Deep.Slices
namespace Go.Proofs.Ythmhpgbkapjjkaa
open Go.ChangeShapes Go.WideShapes Go.ChangeAt Go.RowKit Go.Deep
set_option linter.unusedVariables false

structure RLa where
  rm : Int
  ev : Int
def zLa : RLa := ⟨0, 0⟩
/-- One lies in block b from off on, 2 cells. -/
def LaAt (w : World) (b off : Nat) (r : RLa) : Prop :=
  w.cell? ⟨b, off, none⟩ = some (.int .i64 r.rm) ∧ w.cell? ⟨b, off + 1, none⟩ = some (.int .i64 r.ev)
def LasAt (w : World) (b off : Nat) (rs : List RLa) : Prop := ∀ i, i < rs.length → LaAt w b (off + i * 2) (rs.getD i zLa)
def ReadsLa (B : Nat) (w : World) (a : Option Addr) (rs : List RLa) : Prop := rs = [] ∨ ∃ b off, a = some ⟨b, off, none⟩ ∧ b < B ∧ LasAt w b off rs
theorem LaAt.below {B : Nat} {w w' : World} {b off : Nat} {r : RLa} (h : LaAt w b off r) (hb : Below B w w') (hB : b < B) : LaAt w' b off r := by
  obtain ⟨h0, h1⟩ := h
  exact ⟨(hb.cell (p := ⟨b, off, none⟩) hB).trans h0, (hb.cell (p := ⟨b, off + 1, none⟩) hB).trans h1⟩
theorem LasAt.below {B : Nat} {w w' : World} {b off : Nat} {rs : List RLa} (h : LasAt w b off rs) (hb : Below B w w') (hB : b < B) : LasAt w' b off rs := fun i hi => (h i hi).below hb hB
theorem ReadsLa.below {B : Nat} {w w' : World} {a : Option Addr} {rs : List RLa} (h : ReadsLa B w a rs) (hb : Below B w w') : ReadsLa B w' a rs := by
  rcases h with h | ⟨b, off, ha, hB, hi⟩
  · exact .inl h
  · exact .inr ⟨b, off, ha, hB, hi.below hb hB⟩
theorem ReadsLa.mono {B B' : Nat} {w : World} {a : Option Addr} {rs : List RLa} (h : ReadsLa B w a rs) (hb : B ≤ B') : ReadsLa B' w a rs := by
  rcases h with h | ⟨b, off, ha, hB, hi⟩
  · exact .inl h
  · exact .inr ⟨b, off, ha, by omega, hi⟩
theorem getLa {p : RLa → Prop} {rs : List RLa} (h : ∀ r ∈ rs, p r) {k : Nat} (hk : k < rs.length) : p (rs.getD k zLa) := by
  have e : rs.getD k zLa = rs[k] := by simp [List.getD_eq_getElem?_getD, hk]
  rw [e]; exact h _ (List.getElem_mem _)
theorem laNew (w : World) (r0 : Int) (r1 : Int) : LaAt (w.alloc (Obj.cells #[.int .i64 r0, .int .i64 r1] 45)) w.heap.size 0 ⟨r0, r1⟩ :=
  ⟨by simp, by simp⟩
def LaOK (r : RLa) : Prop := True
def LaWide (r : RLa) : Prop := (Lit.int .i64 r.rm).wf = true ∧ (Lit.int .i64 r.ev).wf = true
end Go.Proofs.Ythmhpgbkapjjkaa
