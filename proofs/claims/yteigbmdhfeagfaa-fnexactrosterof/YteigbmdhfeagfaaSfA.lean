/-
  Lists of Shift in memory.
-/
import Derived.Test.YteigbmdhfeagfaaLists0
import Derived.Deep.Slices
namespace Go.Proofs.Yteigbmdhfeagfaa
open Go.ChangeShapes Go.WideShapes Go.ChangeAt Go.RowKit Go.Deep
set_option linter.unusedVariables false

structure RSf where
  fr : Int
  to : Int
  sk : ByteArray
def zSf : RSf := ⟨0, 0, ByteArray.empty⟩
/-- One lies in block b from off on, 3 cells. -/
def SfAt (w : World) (b off : Nat) (r : RSf) : Prop :=
  w.cell? ⟨b, off, none⟩ = some (.int .i64 r.fr) ∧ w.cell? ⟨b, off + 1, none⟩ = some (.int .i64 r.to) ∧ w.cell? ⟨b, off + 2, none⟩ = some (.string r.sk)
def SfsAt (w : World) (b off : Nat) (rs : List RSf) : Prop := ∀ i, i < rs.length → SfAt w b (off + i * 3) (rs.getD i zSf)
def ReadsSf (B : Nat) (w : World) (a : Option Addr) (rs : List RSf) : Prop := rs = [] ∨ ∃ b off, a = some ⟨b, off, none⟩ ∧ b < B ∧ SfsAt w b off rs
theorem SfAt.below {B : Nat} {w w' : World} {b off : Nat} {r : RSf} (h : SfAt w b off r) (hb : Below B w w') (hB : b < B) : SfAt w' b off r := by
  obtain ⟨h0, h1, h2⟩ := h
  exact ⟨(hb.cell (p := ⟨b, off, none⟩) hB).trans h0, (hb.cell (p := ⟨b, off + 1, none⟩) hB).trans h1, (hb.cell (p := ⟨b, off + 2, none⟩) hB).trans h2⟩
theorem SfsAt.below {B : Nat} {w w' : World} {b off : Nat} {rs : List RSf} (h : SfsAt w b off rs) (hb : Below B w w') (hB : b < B) : SfsAt w' b off rs := fun i hi => (h i hi).below hb hB
theorem ReadsSf.below {B : Nat} {w w' : World} {a : Option Addr} {rs : List RSf} (h : ReadsSf B w a rs) (hb : Below B w w') : ReadsSf B w' a rs := by
  rcases h with h | ⟨b, off, ha, hB, hi⟩
  · exact .inl h
  · exact .inr ⟨b, off, ha, hB, hi.below hb hB⟩
theorem ReadsSf.mono {B B' : Nat} {w : World} {a : Option Addr} {rs : List RSf} (h : ReadsSf B w a rs) (hb : B ≤ B') : ReadsSf B' w a rs := by
  rcases h with h | ⟨b, off, ha, hB, hi⟩
  · exact .inl h
  · exact .inr ⟨b, off, ha, by omega, hi⟩
theorem getSf {p : RSf → Prop} {rs : List RSf} (h : ∀ r ∈ rs, p r) {k : Nat} (hk : k < rs.length) : p (rs.getD k zSf) := by
  have e : rs.getD k zSf = rs[k] := by simp [List.getD_eq_getElem?_getD, hk]
  rw [e]; exact h _ (List.getElem_mem _)
theorem sfNew (w : World) (r0 : Int) (r1 : Int) (r2 : ByteArray) : SfAt (w.alloc (Obj.cells #[.int .i64 r0, .int .i64 r1, .string r2] 54)) w.heap.size 0 ⟨r0, r1, r2⟩ :=
  ⟨by simp, by simp, by simp⟩
def SfOK (r : RSf) : Prop := r.sk.size ≤ 2000000
def SfWide (r : RSf) : Prop := (Lit.int .i64 r.fr).wf = true ∧ (Lit.int .i64 r.to).wf = true ∧ r.sk.size ≤ maxLen
end Go.Proofs.Yteigbmdhfeagfaa
