/-
  Lists of Tender in memory.
-/
import Derived.Test.YtgkbfkdokknedaaLists0
import Derived.Deep.Slices
namespace Go.Proofs.Ytgkbfkdokknedaa
open Go.ChangeShapes Go.WideShapes Go.ChangeAt Go.RowKit Go.Deep
set_option linter.unusedVariables false

structure RTd where
  kd : Int
  am : Int
  n : Int
  d : Int
def zTd : RTd := ⟨0, 0, 0, 0⟩
/-- One lies in block b from off on, 4 cells. -/
def TdAt (w : World) (b off : Nat) (r : RTd) : Prop :=
  w.cell? ⟨b, off, none⟩ = some (.int .i64 r.kd) ∧ w.cell? ⟨b, off + 1, none⟩ = some (.int .i64 r.am) ∧ w.cell? ⟨b, off + 2, none⟩ = some (.int .i64 r.n) ∧ w.cell? ⟨b, off + 3, none⟩ = some (.int .i64 r.d)
def TdsAt (w : World) (b off : Nat) (rs : List RTd) : Prop := ∀ i, i < rs.length → TdAt w b (off + i * 4) (rs.getD i zTd)
def ReadsTd (B : Nat) (w : World) (a : Option Addr) (rs : List RTd) : Prop := rs = [] ∨ ∃ b off, a = some ⟨b, off, none⟩ ∧ b < B ∧ TdsAt w b off rs
theorem TdAt.below {B : Nat} {w w' : World} {b off : Nat} {r : RTd} (h : TdAt w b off r) (hb : Below B w w') (hB : b < B) : TdAt w' b off r := by
  obtain ⟨h0, h1, h2, h3⟩ := h
  exact ⟨(hb.cell (p := ⟨b, off, none⟩) hB).trans h0, (hb.cell (p := ⟨b, off + 1, none⟩) hB).trans h1, (hb.cell (p := ⟨b, off + 2, none⟩) hB).trans h2, (hb.cell (p := ⟨b, off + 3, none⟩) hB).trans h3⟩
theorem TdsAt.below {B : Nat} {w w' : World} {b off : Nat} {rs : List RTd} (h : TdsAt w b off rs) (hb : Below B w w') (hB : b < B) : TdsAt w' b off rs := fun i hi => (h i hi).below hb hB
theorem ReadsTd.below {B : Nat} {w w' : World} {a : Option Addr} {rs : List RTd} (h : ReadsTd B w a rs) (hb : Below B w w') : ReadsTd B w' a rs := by
  rcases h with h | ⟨b, off, ha, hB, hi⟩
  · exact .inl h
  · exact .inr ⟨b, off, ha, hB, hi.below hb hB⟩
theorem ReadsTd.mono {B B' : Nat} {w : World} {a : Option Addr} {rs : List RTd} (h : ReadsTd B w a rs) (hb : B ≤ B') : ReadsTd B' w a rs := by
  rcases h with h | ⟨b, off, ha, hB, hi⟩
  · exact .inl h
  · exact .inr ⟨b, off, ha, by omega, hi⟩
theorem getTd {p : RTd → Prop} {rs : List RTd} (h : ∀ r ∈ rs, p r) {k : Nat} (hk : k < rs.length) : p (rs.getD k zTd) := by
  have e : rs.getD k zTd = rs[k] := by simp [List.getD_eq_getElem?_getD, hk]
  rw [e]; exact h _ (List.getElem_mem _)
theorem tdNew (w : World) (r0 : Int) (r1 : Int) (r2 : Int) (r3 : Int) : TdAt (w.alloc (Obj.cells #[.int .i64 r0, .int .i64 r1, .int .i64 r2, .int .i64 r3] 47)) w.heap.size 0 ⟨r0, r1, r2, r3⟩ :=
  ⟨by simp, by simp, by simp, by simp⟩
def TdOK (r : RTd) : Prop := True
def TdWide (r : RTd) : Prop := (Lit.int .i64 r.kd).wf = true ∧ (Lit.int .i64 r.am).wf = true ∧ (Lit.int .i64 r.n).wf = true ∧ (Lit.int .i64 r.d).wf = true
end Go.Proofs.Ytgkbfkdokknedaa
