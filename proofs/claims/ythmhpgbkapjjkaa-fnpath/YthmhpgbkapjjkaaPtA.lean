/-
  Lists of Spot in memory.
-/
import Derived.Test.YthmhpgbkapjjkaaLists0
import Derived.Deep.Slices
namespace Go.Proofs.Ythmhpgbkapjjkaa
open Go.ChangeShapes Go.WideShapes Go.ChangeAt Go.RowKit Go.Deep
set_option linter.unusedVariables false

structure RPt where
  ai : Int
  pl : Int
def zPt : RPt := ⟨0, 0⟩
/-- One lies in block b from off on, 2 cells. -/
def PtAt (w : World) (b off : Nat) (r : RPt) : Prop :=
  w.cell? ⟨b, off, none⟩ = some (.int .i64 r.ai) ∧ w.cell? ⟨b, off + 1, none⟩ = some (.int .i64 r.pl)
def PtsAt (w : World) (b off : Nat) (rs : List RPt) : Prop := ∀ i, i < rs.length → PtAt w b (off + i * 2) (rs.getD i zPt)
def ReadsPt (B : Nat) (w : World) (a : Option Addr) (rs : List RPt) : Prop := rs = [] ∨ ∃ b off, a = some ⟨b, off, none⟩ ∧ b < B ∧ PtsAt w b off rs
theorem PtAt.below {B : Nat} {w w' : World} {b off : Nat} {r : RPt} (h : PtAt w b off r) (hb : Below B w w') (hB : b < B) : PtAt w' b off r := by
  obtain ⟨h0, h1⟩ := h
  exact ⟨(hb.cell (p := ⟨b, off, none⟩) hB).trans h0, (hb.cell (p := ⟨b, off + 1, none⟩) hB).trans h1⟩
theorem PtsAt.below {B : Nat} {w w' : World} {b off : Nat} {rs : List RPt} (h : PtsAt w b off rs) (hb : Below B w w') (hB : b < B) : PtsAt w' b off rs := fun i hi => (h i hi).below hb hB
theorem ReadsPt.below {B : Nat} {w w' : World} {a : Option Addr} {rs : List RPt} (h : ReadsPt B w a rs) (hb : Below B w w') : ReadsPt B w' a rs := by
  rcases h with h | ⟨b, off, ha, hB, hi⟩
  · exact .inl h
  · exact .inr ⟨b, off, ha, hB, hi.below hb hB⟩
theorem ReadsPt.mono {B B' : Nat} {w : World} {a : Option Addr} {rs : List RPt} (h : ReadsPt B w a rs) (hb : B ≤ B') : ReadsPt B' w a rs := by
  rcases h with h | ⟨b, off, ha, hB, hi⟩
  · exact .inl h
  · exact .inr ⟨b, off, ha, by omega, hi⟩
theorem getPt {p : RPt → Prop} {rs : List RPt} (h : ∀ r ∈ rs, p r) {k : Nat} (hk : k < rs.length) : p (rs.getD k zPt) := by
  have e : rs.getD k zPt = rs[k] := by simp [List.getD_eq_getElem?_getD, hk]
  rw [e]; exact h _ (List.getElem_mem _)
theorem ptNew (w : World) (r0 : Int) (r1 : Int) : PtAt (w.alloc (Obj.cells #[.int .i64 r0, .int .i64 r1] 35)) w.heap.size 0 ⟨r0, r1⟩ :=
  ⟨by simp, by simp⟩
def PtOK (r : RPt) : Prop := True
def PtWide (r : RPt) : Prop := (Lit.int .i64 r.ai).wf = true ∧ (Lit.int .i64 r.pl).wf = true
end Go.Proofs.Ythmhpgbkapjjkaa
