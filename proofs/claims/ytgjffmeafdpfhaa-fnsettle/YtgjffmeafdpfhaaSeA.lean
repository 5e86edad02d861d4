/-
  Lists of Settled in memory.
-/
import Derived.Test.YtgjffmeafdpfhaaLists0
import Derived.Deep.Slices
namespace Go.Proofs.Ytgjffmeafdpfhaa
open Go.ChangeShapes Go.WideShapes Go.ChangeAt Go.RowKit Go.Deep
set_option linter.unusedVariables false

structure RSe where
  id : ByteArray
  am : Int
def zSe : RSe := ⟨ByteArray.empty, 0⟩
/-- One lies in block b from off on, 2 cells. -/
def SeAt (w : World) (b off : Nat) (r : RSe) : Prop :=
  w.cell? ⟨b, off, none⟩ = some (.string r.id) ∧ w.cell? ⟨b, off + 1, none⟩ = some (.int .i64 r.am)
def SesAt (w : World) (b off : Nat) (rs : List RSe) : Prop := ∀ i, i < rs.length → SeAt w b (off + i * 2) (rs.getD i zSe)
def ReadsSe (B : Nat) (w : World) (a : Option Addr) (rs : List RSe) : Prop := rs = [] ∨ ∃ b off, a = some ⟨b, off, none⟩ ∧ b < B ∧ SesAt w b off rs
theorem SeAt.below {B : Nat} {w w' : World} {b off : Nat} {r : RSe} (h : SeAt w b off r) (hb : Below B w w') (hB : b < B) : SeAt w' b off r := by
  obtain ⟨h0, h1⟩ := h
  exact ⟨(hb.cell (p := ⟨b, off, none⟩) hB).trans h0, (hb.cell (p := ⟨b, off + 1, none⟩) hB).trans h1⟩
theorem SesAt.below {B : Nat} {w w' : World} {b off : Nat} {rs : List RSe} (h : SesAt w b off rs) (hb : Below B w w') (hB : b < B) : SesAt w' b off rs := fun i hi => (h i hi).below hb hB
theorem ReadsSe.below {B : Nat} {w w' : World} {a : Option Addr} {rs : List RSe} (h : ReadsSe B w a rs) (hb : Below B w w') : ReadsSe B w' a rs := by
  rcases h with h | ⟨b, off, ha, hB, hi⟩
  · exact .inl h
  · exact .inr ⟨b, off, ha, hB, hi.below hb hB⟩
theorem ReadsSe.mono {B B' : Nat} {w : World} {a : Option Addr} {rs : List RSe} (h : ReadsSe B w a rs) (hb : B ≤ B') : ReadsSe B' w a rs := by
  rcases h with h | ⟨b, off, ha, hB, hi⟩
  · exact .inl h
  · exact .inr ⟨b, off, ha, by omega, hi⟩
theorem getSe {p : RSe → Prop} {rs : List RSe} (h : ∀ r ∈ rs, p r) {k : Nat} (hk : k < rs.length) : p (rs.getD k zSe) := by
  have e : rs.getD k zSe = rs[k] := by simp [List.getD_eq_getElem?_getD, hk]
  rw [e]; exact h _ (List.getElem_mem _)
theorem seNew (w : World) (r0 : ByteArray) (r1 : Int) : SeAt (w.alloc (Obj.cells #[.string r0, .int .i64 r1] 33)) w.heap.size 0 ⟨r0, r1⟩ :=
  ⟨by simp, by simp⟩
def SeOK (r : RSe) : Prop := r.id.size ≤ 2000000
def SeWide (r : RSe) : Prop := r.id.size ≤ maxLen ∧ (Lit.int .i64 r.am).wf = true
end Go.Proofs.Ytgjffmeafdpfhaa
