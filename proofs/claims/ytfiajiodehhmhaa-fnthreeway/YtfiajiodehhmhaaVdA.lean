/-
  Lists of Verdict in memory.
-/
import Derived.Test.YtfiajiodehhmhaaLists0
import Derived.Deep.Slices
namespace Go.Proofs.Ytfiajiodehhmhaa
open Go.ChangeShapes Go.WideShapes Go.ChangeAt Go.RowKit Go.Deep
set_option linter.unusedVariables false

structure RVd where
  ar : ByteArray
  cd : Int
def zVd : RVd := ⟨ByteArray.empty, 0⟩
/-- One lies in block b from off on, 2 cells. -/
def VdAt (w : World) (b off : Nat) (r : RVd) : Prop :=
  w.cell? ⟨b, off, none⟩ = some (.string r.ar) ∧ w.cell? ⟨b, off + 1, none⟩ = some (.int .i64 r.cd)
def VdsAt (w : World) (b off : Nat) (rs : List RVd) : Prop := ∀ i, i < rs.length → VdAt w b (off + i * 2) (rs.getD i zVd)
def ReadsVd (B : Nat) (w : World) (a : Option Addr) (rs : List RVd) : Prop := rs = [] ∨ ∃ b off, a = some ⟨b, off, none⟩ ∧ b < B ∧ VdsAt w b off rs
theorem VdAt.below {B : Nat} {w w' : World} {b off : Nat} {r : RVd} (h : VdAt w b off r) (hb : Below B w w') (hB : b < B) : VdAt w' b off r := by
  obtain ⟨h0, h1⟩ := h
  exact ⟨(hb.cell (p := ⟨b, off, none⟩) hB).trans h0, (hb.cell (p := ⟨b, off + 1, none⟩) hB).trans h1⟩
theorem VdsAt.below {B : Nat} {w w' : World} {b off : Nat} {rs : List RVd} (h : VdsAt w b off rs) (hb : Below B w w') (hB : b < B) : VdsAt w' b off rs := fun i hi => (h i hi).below hb hB
theorem ReadsVd.below {B : Nat} {w w' : World} {a : Option Addr} {rs : List RVd} (h : ReadsVd B w a rs) (hb : Below B w w') : ReadsVd B w' a rs := by
  rcases h with h | ⟨b, off, ha, hB, hi⟩
  · exact .inl h
  · exact .inr ⟨b, off, ha, hB, hi.below hb hB⟩
theorem ReadsVd.mono {B B' : Nat} {w : World} {a : Option Addr} {rs : List RVd} (h : ReadsVd B w a rs) (hb : B ≤ B') : ReadsVd B' w a rs := by
  rcases h with h | ⟨b, off, ha, hB, hi⟩
  · exact .inl h
  · exact .inr ⟨b, off, ha, by omega, hi⟩
theorem getVd {p : RVd → Prop} {rs : List RVd} (h : ∀ r ∈ rs, p r) {k : Nat} (hk : k < rs.length) : p (rs.getD k zVd) := by
  have e : rs.getD k zVd = rs[k] := by simp [List.getD_eq_getElem?_getD, hk]
  rw [e]; exact h _ (List.getElem_mem _)
theorem vdNew (w : World) (r0 : ByteArray) (r1 : Int) : VdAt (w.alloc (Obj.cells #[.string r0, .int .i64 r1] 39)) w.heap.size 0 ⟨r0, r1⟩ :=
  ⟨by simp, by simp⟩
def VdOK (r : RVd) : Prop := r.ar.size ≤ 2000000
def VdWide (r : RVd) : Prop := r.ar.size ≤ maxLen ∧ (Lit.int .i64 r.cd).wf = true
end Go.Proofs.Ytfiajiodehhmhaa
