/-
  Lists of Term in memory.
-/
import Derived.Test.YtfofdeenpcbglaaLists0
import Derived.Deep.Slices
namespace Go.Proofs.Ytfofdeenpcbglaa
open Go.ChangeShapes Go.WideShapes Go.ChangeAt Go.RowKit Go.Deep
set_option linter.unusedVariables false

structure RTm where
  fd : Int
  op : Int
  nu : Int
def zTm : RTm := ⟨0, 0, 0⟩
/-- One lies in block b from off on, 3 cells. -/
def TmAt (w : World) (b off : Nat) (r : RTm) : Prop :=
  w.cell? ⟨b, off, none⟩ = some (.int .i64 r.fd) ∧ w.cell? ⟨b, off + 1, none⟩ = some (.int .i64 r.op) ∧ w.cell? ⟨b, off + 2, none⟩ = some (.int .i64 r.nu)
def TmsAt (w : World) (b off : Nat) (rs : List RTm) : Prop := ∀ i, i < rs.length → TmAt w b (off + i * 3) (rs.getD i zTm)
def ReadsTm (B : Nat) (w : World) (a : Option Addr) (rs : List RTm) : Prop := rs = [] ∨ ∃ b off, a = some ⟨b, off, none⟩ ∧ b < B ∧ TmsAt w b off rs
theorem TmAt.below {B : Nat} {w w' : World} {b off : Nat} {r : RTm} (h : TmAt w b off r) (hb : Below B w w') (hB : b < B) : TmAt w' b off r := by
  obtain ⟨h0, h1, h2⟩ := h
  exact ⟨(hb.cell (p := ⟨b, off, none⟩) hB).trans h0, (hb.cell (p := ⟨b, off + 1, none⟩) hB).trans h1, (hb.cell (p := ⟨b, off + 2, none⟩) hB).trans h2⟩
theorem TmsAt.below {B : Nat} {w w' : World} {b off : Nat} {rs : List RTm} (h : TmsAt w b off rs) (hb : Below B w w') (hB : b < B) : TmsAt w' b off rs := fun i hi => (h i hi).below hb hB
theorem ReadsTm.below {B : Nat} {w w' : World} {a : Option Addr} {rs : List RTm} (h : ReadsTm B w a rs) (hb : Below B w w') : ReadsTm B w' a rs := by
  rcases h with h | ⟨b, off, ha, hB, hi⟩
  · exact .inl h
  · exact .inr ⟨b, off, ha, hB, hi.below hb hB⟩
theorem ReadsTm.mono {B B' : Nat} {w : World} {a : Option Addr} {rs : List RTm} (h : ReadsTm B w a rs) (hb : B ≤ B') : ReadsTm B' w a rs := by
  rcases h with h | ⟨b, off, ha, hB, hi⟩
  · exact .inl h
  · exact .inr ⟨b, off, ha, by omega, hi⟩
theorem getTm {p : RTm → Prop} {rs : List RTm} (h : ∀ r ∈ rs, p r) {k : Nat} (hk : k < rs.length) : p (rs.getD k zTm) := by
  have e : rs.getD k zTm = rs[k] := by simp [List.getD_eq_getElem?_getD, hk]
  rw [e]; exact h _ (List.getElem_mem _)
theorem tmNew (w : World) (r0 : Int) (r1 : Int) (r2 : Int) : TmAt (w.alloc (Obj.cells #[.int .i64 r0, .int .i64 r1, .int .i64 r2] 37)) w.heap.size 0 ⟨r0, r1, r2⟩ :=
  ⟨by simp, by simp, by simp⟩
def TmOK (r : RTm) : Prop := True
def TmWide (r : RTm) : Prop := (Lit.int .i64 r.fd).wf = true ∧ (Lit.int .i64 r.op).wf = true ∧ (Lit.int .i64 r.nu).wf = true
end Go.Proofs.Ytfofdeenpcbglaa
