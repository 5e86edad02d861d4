/-
  Lists of StockObs in memory.
-/
import Derived.Test.YtlfcaijhlgldnaaLists0
import Derived.Deep.Slices
namespace Go.Proofs.Ytlfcaijhlgldnaa
open Go.ChangeShapes Go.WideShapes Go.ChangeAt Go.RowKit Go.Deep
set_option linter.unusedVariables false

structure RSo where
  cd : Int
  nu : Int
def zSo : RSo := ⟨0, 0⟩
/-- One lies in block b from off on, 2 cells. -/
def SoAt (w : World) (b off : Nat) (r : RSo) : Prop :=
  w.cell? ⟨b, off, none⟩ = some (.int .i64 r.cd) ∧ w.cell? ⟨b, off + 1, none⟩ = some (.int .i64 r.nu)
def SosAt (w : World) (b off : Nat) (rs : List RSo) : Prop := ∀ i, i < rs.length → SoAt w b (off + i * 2) (rs.getD i zSo)
def ReadsSo (B : Nat) (w : World) (a : Option Addr) (rs : List RSo) : Prop := rs = [] ∨ ∃ b off, a = some ⟨b, off, none⟩ ∧ b < B ∧ SosAt w b off rs
theorem SoAt.below {B : Nat} {w w' : World} {b off : Nat} {r : RSo} (h : SoAt w b off r) (hb : Below B w w') (hB : b < B) : SoAt w' b off r := by
  obtain ⟨h0, h1⟩ := h
  exact ⟨(hb.cell (p := ⟨b, off, none⟩) hB).trans h0, (hb.cell (p := ⟨b, off + 1, none⟩) hB).trans h1⟩
theorem SosAt.below {B : Nat} {w w' : World} {b off : Nat} {rs : List RSo} (h : SosAt w b off rs) (hb : Below B w w') (hB : b < B) : SosAt w' b off rs := fun i hi => (h i hi).below hb hB
theorem ReadsSo.below {B : Nat} {w w' : World} {a : Option Addr} {rs : List RSo} (h : ReadsSo B w a rs) (hb : Below B w w') : ReadsSo B w' a rs := by
  rcases h with h | ⟨b, off, ha, hB, hi⟩
  · exact .inl h
  · exact .inr ⟨b, off, ha, hB, hi.below hb hB⟩
theorem ReadsSo.mono {B B' : Nat} {w : World} {a : Option Addr} {rs : List RSo} (h : ReadsSo B w a rs) (hb : B ≤ B') : ReadsSo B' w a rs := by
  rcases h with h | ⟨b, off, ha, hB, hi⟩
  · exact .inl h
  · exact .inr ⟨b, off, ha, by omega, hi⟩
theorem getSo {p : RSo → Prop} {rs : List RSo} (h : ∀ r ∈ rs, p r) {k : Nat} (hk : k < rs.length) : p (rs.getD k zSo) := by
  have e : rs.getD k zSo = rs[k] := by simp [List.getD_eq_getElem?_getD, hk]
  rw [e]; exact h _ (List.getElem_mem _)
theorem soNew (w : World) (r0 : Int) (r1 : Int) : SoAt (w.alloc (Obj.cells #[.int .i64 r0, .int .i64 r1] 36)) w.heap.size 0 ⟨r0, r1⟩ :=
  ⟨by simp, by simp⟩
def SoOK (r : RSo) : Prop := True
def SoWide (r : RSo) : Prop := (Lit.int .i64 r.cd).wf = true ∧ (Lit.int .i64 r.nu).wf = true
end Go.Proofs.Ytlfcaijhlgldnaa
