/-
  Lists of Load in memory.
-/
import Derived.Test.YtbgjekhekjbcpaaLists0
import Derived.Deep.Slices
namespace Go.Proofs.Ytbgjekhekjbcpaa
open Go.ChangeShapes Go.WideShapes Go.ChangeAt Go.RowKit Go.Deep
set_option linter.unusedVariables false

structure RLd where
  pl : Int
  ex : Int
def zLd : RLd := ⟨0, 0⟩
/-- One lies in block b from off on, 2 cells. -/
def LdAt (w : World) (b off : Nat) (r : RLd) : Prop :=
  w.cell? ⟨b, off, none⟩ = some (.int .i64 r.pl) ∧ w.cell? ⟨b, off + 1, none⟩ = some (.int .i64 r.ex)
def LdsAt (w : World) (b off : Nat) (rs : List RLd) : Prop := ∀ i, i < rs.length → LdAt w b (off + i * 2) (rs.getD i zLd)
def ReadsLd (B : Nat) (w : World) (a : Option Addr) (rs : List RLd) : Prop := rs = [] ∨ ∃ b off, a = some ⟨b, off, none⟩ ∧ b < B ∧ LdsAt w b off rs
theorem LdAt.below {B : Nat} {w w' : World} {b off : Nat} {r : RLd} (h : LdAt w b off r) (hb : Below B w w') (hB : b < B) : LdAt w' b off r := by
  obtain ⟨h0, h1⟩ := h
  exact ⟨(hb.cell (p := ⟨b, off, none⟩) hB).trans h0, (hb.cell (p := ⟨b, off + 1, none⟩) hB).trans h1⟩
theorem LdsAt.below {B : Nat} {w w' : World} {b off : Nat} {rs : List RLd} (h : LdsAt w b off rs) (hb : Below B w w') (hB : b < B) : LdsAt w' b off rs := fun i hi => (h i hi).below hb hB
theorem ReadsLd.below {B : Nat} {w w' : World} {a : Option Addr} {rs : List RLd} (h : ReadsLd B w a rs) (hb : Below B w w') : ReadsLd B w' a rs := by
  rcases h with h | ⟨b, off, ha, hB, hi⟩
  · exact .inl h
  · exact .inr ⟨b, off, ha, hB, hi.below hb hB⟩
theorem ReadsLd.mono {B B' : Nat} {w : World} {a : Option Addr} {rs : List RLd} (h : ReadsLd B w a rs) (hb : B ≤ B') : ReadsLd B' w a rs := by
  rcases h with h | ⟨b, off, ha, hB, hi⟩
  · exact .inl h
  · exact .inr ⟨b, off, ha, by omega, hi⟩
theorem getLd {p : RLd → Prop} {rs : List RLd} (h : ∀ r ∈ rs, p r) {k : Nat} (hk : k < rs.length) : p (rs.getD k zLd) := by
  have e : rs.getD k zLd = rs[k] := by simp [List.getD_eq_getElem?_getD, hk]
  rw [e]; exact h _ (List.getElem_mem _)
theorem ldNew (w : World) (r0 : Int) (r1 : Int) : LdAt (w.alloc (Obj.cells #[.int .i64 r0, .int .i64 r1] 37)) w.heap.size 0 ⟨r0, r1⟩ :=
  ⟨by simp, by simp⟩
def LdOK (r : RLd) : Prop := True
def LdWide (r : RLd) : Prop := (Lit.int .i64 r.pl).wf = true ∧ (Lit.int .i64 r.ex).wf = true
end Go.Proofs.Ytbgjekhekjbcpaa
