/-
  Lists of PointAct in memory.
-/
import Derived.Test.YtodncihjenlnjaaLists0
import Derived.Deep.Slices
namespace Go.Proofs.Ytodncihjenlnjaa
open Go.ChangeShapes Go.WideShapes Go.ChangeAt Go.RowKit Go.Deep
set_option linter.unusedVariables false

structure RPa where
  kd : Int
  nu : Int
  un : Int
def zPa : RPa := ⟨0, 0, 0⟩
/-- One lies in block b from off on, 3 cells. -/
def PaAt (w : World) (b off : Nat) (r : RPa) : Prop :=
  w.cell? ⟨b, off, none⟩ = some (.int .i64 r.kd) ∧ w.cell? ⟨b, off + 1, none⟩ = some (.int .i64 r.nu) ∧ w.cell? ⟨b, off + 2, none⟩ = some (.int .i64 r.un)
def PasAt (w : World) (b off : Nat) (rs : List RPa) : Prop := ∀ i, i < rs.length → PaAt w b (off + i * 3) (rs.getD i zPa)
def ReadsPa (B : Nat) (w : World) (a : Option Addr) (rs : List RPa) : Prop := rs = [] ∨ ∃ b off, a = some ⟨b, off, none⟩ ∧ b < B ∧ PasAt w b off rs
theorem PaAt.below {B : Nat} {w w' : World} {b off : Nat} {r : RPa} (h : PaAt w b off r) (hb : Below B w w') (hB : b < B) : PaAt w' b off r := by
  obtain ⟨h0, h1, h2⟩ := h
  exact ⟨(hb.cell (p := ⟨b, off, none⟩) hB).trans h0, (hb.cell (p := ⟨b, off + 1, none⟩) hB).trans h1, (hb.cell (p := ⟨b, off + 2, none⟩) hB).trans h2⟩
theorem PasAt.below {B : Nat} {w w' : World} {b off : Nat} {rs : List RPa} (h : PasAt w b off rs) (hb : Below B w w') (hB : b < B) : PasAt w' b off rs := fun i hi => (h i hi).below hb hB
theorem ReadsPa.below {B : Nat} {w w' : World} {a : Option Addr} {rs : List RPa} (h : ReadsPa B w a rs) (hb : Below B w w') : ReadsPa B w' a rs := by
  rcases h with h | ⟨b, off, ha, hB, hi⟩
  · exact .inl h
  · exact .inr ⟨b, off, ha, hB, hi.below hb hB⟩
theorem ReadsPa.mono {B B' : Nat} {w : World} {a : Option Addr} {rs : List RPa} (h : ReadsPa B w a rs) (hb : B ≤ B') : ReadsPa B' w a rs := by
  rcases h with h | ⟨b, off, ha, hB, hi⟩
  · exact .inl h
  · exact .inr ⟨b, off, ha, by omega, hi⟩
theorem getPa {p : RPa → Prop} {rs : List RPa} (h : ∀ r ∈ rs, p r) {k : Nat} (hk : k < rs.length) : p (rs.getD k zPa) := by
  have e : rs.getD k zPa = rs[k] := by simp [List.getD_eq_getElem?_getD, hk]
  rw [e]; exact h _ (List.getElem_mem _)
theorem paNew (w : World) (r0 : Int) (r1 : Int) (r2 : Int) : PaAt (w.alloc (Obj.cells #[.int .i64 r0, .int .i64 r1, .int .i64 r2] 46)) w.heap.size 0 ⟨r0, r1, r2⟩ :=
  ⟨by simp, by simp, by simp⟩
def PaOK (r : RPa) : Prop := True
def PaWide (r : RPa) : Prop := (Lit.int .i64 r.kd).wf = true ∧ (Lit.int .i64 r.nu).wf = true ∧ (Lit.int .i64 r.un).wf = true
end Go.Proofs.Ytodncihjenlnjaa
