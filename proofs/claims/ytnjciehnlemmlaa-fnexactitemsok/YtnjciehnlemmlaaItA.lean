/-
  Lists of Item in memory.
-/
import Derived.Test.YtnjciehnlemmlaaLists0
import Derived.Deep.Slices
namespace Go.Proofs.Ytnjciehnlemmlaa
open Go.ChangeShapes Go.WideShapes Go.ChangeAt Go.RowKit Go.Deep
set_option linter.unusedVariables false

structure RIt where
  cd : ByteArray
  pr : Int
  dp : Int
  cl : Int
  ag : Int
def zIt : RIt := ⟨ByteArray.empty, 0, 0, 0, 0⟩
/-- One lies in block b from off on, 5 cells. -/
def ItAt (w : World) (b off : Nat) (r : RIt) : Prop :=
  w.cell? ⟨b, off, none⟩ = some (.string r.cd) ∧ w.cell? ⟨b, off + 1, none⟩ = some (.int .i64 r.pr) ∧ w.cell? ⟨b, off + 2, none⟩ = some (.int .i64 r.dp) ∧ w.cell? ⟨b, off + 3, none⟩ = some (.int .i64 r.cl) ∧ w.cell? ⟨b, off + 4, none⟩ = some (.int .i64 r.ag)
def ItsAt (w : World) (b off : Nat) (rs : List RIt) : Prop := ∀ i, i < rs.length → ItAt w b (off + i * 5) (rs.getD i zIt)
def ReadsIt (B : Nat) (w : World) (a : Option Addr) (rs : List RIt) : Prop := rs = [] ∨ ∃ b off, a = some ⟨b, off, none⟩ ∧ b < B ∧ ItsAt w b off rs
theorem ItAt.below {B : Nat} {w w' : World} {b off : Nat} {r : RIt} (h : ItAt w b off r) (hb : Below B w w') (hB : b < B) : ItAt w' b off r := by
  obtain ⟨h0, h1, h2, h3, h4⟩ := h
  exact ⟨(hb.cell (p := ⟨b, off, none⟩) hB).trans h0, (hb.cell (p := ⟨b, off + 1, none⟩) hB).trans h1, (hb.cell (p := ⟨b, off + 2, none⟩) hB).trans h2, (hb.cell (p := ⟨b, off + 3, none⟩) hB).trans h3, (hb.cell (p := ⟨b, off + 4, none⟩) hB).trans h4⟩
theorem ItsAt.below {B : Nat} {w w' : World} {b off : Nat} {rs : List RIt} (h : ItsAt w b off rs) (hb : Below B w w') (hB : b < B) : ItsAt w' b off rs := fun i hi => (h i hi).below hb hB
theorem ReadsIt.below {B : Nat} {w w' : World} {a : Option Addr} {rs : List RIt} (h : ReadsIt B w a rs) (hb : Below B w w') : ReadsIt B w' a rs := by
  rcases h with h | ⟨b, off, ha, hB, hi⟩
  · exact .inl h
  · exact .inr ⟨b, off, ha, hB, hi.below hb hB⟩
theorem ReadsIt.mono {B B' : Nat} {w : World} {a : Option Addr} {rs : List RIt} (h : ReadsIt B w a rs) (hb : B ≤ B') : ReadsIt B' w a rs := by
  rcases h with h | ⟨b, off, ha, hB, hi⟩
  · exact .inl h
  · exact .inr ⟨b, off, ha, by omega, hi⟩
theorem getIt {p : RIt → Prop} {rs : List RIt} (h : ∀ r ∈ rs, p r) {k : Nat} (hk : k < rs.length) : p (rs.getD k zIt) := by
  have e : rs.getD k zIt = rs[k] := by simp [List.getD_eq_getElem?_getD, hk]
  rw [e]; exact h _ (List.getElem_mem _)
theorem itNew (w : World) (r0 : ByteArray) (r1 : Int) (r2 : Int) (r3 : Int) (r4 : Int) : ItAt (w.alloc (Obj.cells #[.string r0, .int .i64 r1, .int .i64 r2, .int .i64 r3, .int .i64 r4] 33)) w.heap.size 0 ⟨r0, r1, r2, r3, r4⟩ :=
  ⟨by simp, by simp, by simp, by simp, by simp⟩
def ItOK (r : RIt) : Prop := r.cd.size ≤ 2000000
def ItWide (r : RIt) : Prop := r.cd.size ≤ maxLen ∧ (Lit.int .i64 r.pr).wf = true ∧ (Lit.int .i64 r.dp).wf = true ∧ (Lit.int .i64 r.cl).wf = true ∧ (Lit.int .i64 r.ag).wf = true
end Go.Proofs.Ytnjciehnlemmlaa
