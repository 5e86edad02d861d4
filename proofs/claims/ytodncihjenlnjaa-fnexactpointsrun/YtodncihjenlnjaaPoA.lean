/-
  Lists of PointObs in memory.
-/
import Derived.Test.YtodncihjenlnjaaLists0
import Derived.Deep.Slices
namespace Go.Proofs.Ytodncihjenlnjaa
open Go.ChangeShapes Go.WideShapes Go.ChangeAt Go.RowKit Go.Deep
set_option linter.unusedVariables false

structure RPo where
  cd : Int
  lf : Int
def zPo : RPo := ⟨0, 0⟩
/-- One lies in block b from off on, 2 cells. -/
def PoAt (w : World) (b off : Nat) (r : RPo) : Prop :=
  w.cell? ⟨b, off, none⟩ = some (.int .i64 r.cd) ∧ w.cell? ⟨b, off + 1, none⟩ = some (.int .i64 r.lf)
def PosAt (w : World) (b off : Nat) (rs : List RPo) : Prop := ∀ i, i < rs.length → PoAt w b (off + i * 2) (rs.getD i zPo)
def ReadsPo (B : Nat) (w : World) (a : Option Addr) (rs : List RPo) : Prop := rs = [] ∨ ∃ b off, a = some ⟨b, off, none⟩ ∧ b < B ∧ PosAt w b off rs
theorem PoAt.below {B : Nat} {w w' : World} {b off : Nat} {r : RPo} (h : PoAt w b off r) (hb : Below B w w') (hB : b < B) : PoAt w' b off r := by
  obtain ⟨h0, h1⟩ := h
  exact ⟨(hb.cell (p := ⟨b, off, none⟩) hB).trans h0, (hb.cell (p := ⟨b, off + 1, none⟩) hB).trans h1⟩
theorem PosAt.below {B : Nat} {w w' : World} {b off : Nat} {rs : List RPo} (h : PosAt w b off rs) (hb : Below B w w') (hB : b < B) : PosAt w' b off rs := fun i hi => (h i hi).below hb hB
theorem ReadsPo.below {B : Nat} {w w' : World} {a : Option Addr} {rs : List RPo} (h : ReadsPo B w a rs) (hb : Below B w w') : ReadsPo B w' a rs := by
  rcases h with h | ⟨b, off, ha, hB, hi⟩
  · exact .inl h
  · exact .inr ⟨b, off, ha, hB, hi.below hb hB⟩
theorem ReadsPo.mono {B B' : Nat} {w : World} {a : Option Addr} {rs : List RPo} (h : ReadsPo B w a rs) (hb : B ≤ B') : ReadsPo B' w a rs := by
  rcases h with h | ⟨b, off, ha, hB, hi⟩
  · exact .inl h
  · exact .inr ⟨b, off, ha, by omega, hi⟩
theorem getPo {p : RPo → Prop} {rs : List RPo} (h : ∀ r ∈ rs, p r) {k : Nat} (hk : k < rs.length) : p (rs.getD k zPo) := by
  have e : rs.getD k zPo = rs[k] := by simp [List.getD_eq_getElem?_getD, hk]
  rw [e]; exact h _ (List.getElem_mem _)
theorem poNew (w : World) (r0 : Int) (r1 : Int) : PoAt (w.alloc (Obj.cells #[.int .i64 r0, .int .i64 r1] 49)) w.heap.size 0 ⟨r0, r1⟩ :=
  ⟨by simp, by simp⟩
def PoOK (r : RPo) : Prop := True
def PoWide (r : RPo) : Prop := (Lit.int .i64 r.cd).wf = true ∧ (Lit.int .i64 r.lf).wf = true
end Go.Proofs.Ytodncihjenlnjaa
