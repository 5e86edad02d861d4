/-
  Lists of PointLot in memory.
-/
import Derived.Test.YtodncihjenlnjaaLists0
import Derived.Deep.Slices
namespace Go.Proofs.Ytodncihjenlnjaa
open Go.ChangeShapes Go.WideShapes Go.ChangeAt Go.RowKit Go.Deep
set_option linter.unusedVariables false

structure RLo where
  nu : Int
  un : Int
def zLo : RLo := ⟨0, 0⟩
/-- One lies in block b from off on, 2 cells. -/
def LoAt (w : World) (b off : Nat) (r : RLo) : Prop :=
  w.cell? ⟨b, off, none⟩ = some (.int .i64 r.nu) ∧ w.cell? ⟨b, off + 1, none⟩ = some (.int .i64 r.un)
def LosAt (w : World) (b off : Nat) (rs : List RLo) : Prop := ∀ i, i < rs.length → LoAt w b (off + i * 2) (rs.getD i zLo)
def ReadsLo (B : Nat) (w : World) (a : Option Addr) (rs : List RLo) : Prop := rs = [] ∨ ∃ b off, a = some ⟨b, off, none⟩ ∧ b < B ∧ LosAt w b off rs
theorem LoAt.below {B : Nat} {w w' : World} {b off : Nat} {r : RLo} (h : LoAt w b off r) (hb : Below B w w') (hB : b < B) : LoAt w' b off r := by
  obtain ⟨h0, h1⟩ := h
  exact ⟨(hb.cell (p := ⟨b, off, none⟩) hB).trans h0, (hb.cell (p := ⟨b, off + 1, none⟩) hB).trans h1⟩
theorem LosAt.below {B : Nat} {w w' : World} {b off : Nat} {rs : List RLo} (h : LosAt w b off rs) (hb : Below B w w') (hB : b < B) : LosAt w' b off rs := fun i hi => (h i hi).below hb hB
theorem ReadsLo.below {B : Nat} {w w' : World} {a : Option Addr} {rs : List RLo} (h : ReadsLo B w a rs) (hb : Below B w w') : ReadsLo B w' a rs := by
  rcases h with h | ⟨b, off, ha, hB, hi⟩
  · exact .inl h
  · exact .inr ⟨b, off, ha, hB, hi.below hb hB⟩
theorem ReadsLo.mono {B B' : Nat} {w : World} {a : Option Addr} {rs : List RLo} (h : ReadsLo B w a rs) (hb : B ≤ B') : ReadsLo B' w a rs := by
  rcases h with h | ⟨b, off, ha, hB, hi⟩
  · exact .inl h
  · exact .inr ⟨b, off, ha, by omega, hi⟩
theorem getLo {p : RLo → Prop} {rs : List RLo} (h : ∀ r ∈ rs, p r) {k : Nat} (hk : k < rs.length) : p (rs.getD k zLo) := by
  have e : rs.getD k zLo = rs[k] := by simp [List.getD_eq_getElem?_getD, hk]
  rw [e]; exact h _ (List.getElem_mem _)
theorem loNew (w : World) (r0 : Int) (r1 : Int) : LoAt (w.alloc (Obj.cells #[.int .i64 r0, .int .i64 r1] 67)) w.heap.size 0 ⟨r0, r1⟩ :=
  ⟨by simp, by simp⟩
def LoOK (r : RLo) : Prop := True
def LoWide (r : RLo) : Prop := (Lit.int .i64 r.nu).wf = true ∧ (Lit.int .i64 r.un).wf = true
end Go.Proofs.Ytodncihjenlnjaa
