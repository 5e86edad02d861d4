/-
  Lists of Unit in memory.
-/
import Derived.Test.YtlnhnocegfnllaaLists0
import Derived.Deep.Slices
namespace Go.Proofs.Ytlnhnocegfnllaa
open Go.ChangeShapes Go.WideShapes Go.ChangeAt Go.RowKit Go.Deep
set_option linter.unusedVariables false

structure RUn where
  art : ByteArray
  pr : Int
def zUn : RUn := ⟨ByteArray.empty, 0⟩
/-- One lies in block b from off on, 2 cells. -/
def UnAt (w : World) (b off : Nat) (r : RUn) : Prop :=
  w.cell? ⟨b, off, none⟩ = some (.string r.art) ∧ w.cell? ⟨b, off + 1, none⟩ = some (.int .i64 r.pr)
def UnsAt (w : World) (b off : Nat) (rs : List RUn) : Prop := ∀ i, i < rs.length → UnAt w b (off + i * 2) (rs.getD i zUn)
def ReadsUn (B : Nat) (w : World) (a : Option Addr) (rs : List RUn) : Prop := rs = [] ∨ ∃ b off, a = some ⟨b, off, none⟩ ∧ b < B ∧ UnsAt w b off rs
theorem UnAt.below {B : Nat} {w w' : World} {b off : Nat} {r : RUn} (h : UnAt w b off r) (hb : Below B w w') (hB : b < B) : UnAt w' b off r := by
  obtain ⟨h0, h1⟩ := h
  exact ⟨(hb.cell (p := ⟨b, off, none⟩) hB).trans h0, (hb.cell (p := ⟨b, off + 1, none⟩) hB).trans h1⟩
theorem UnsAt.below {B : Nat} {w w' : World} {b off : Nat} {rs : List RUn} (h : UnsAt w b off rs) (hb : Below B w w') (hB : b < B) : UnsAt w' b off rs := fun i hi => (h i hi).below hb hB
theorem ReadsUn.below {B : Nat} {w w' : World} {a : Option Addr} {rs : List RUn} (h : ReadsUn B w a rs) (hb : Below B w w') : ReadsUn B w' a rs := by
  rcases h with h | ⟨b, off, ha, hB, hi⟩
  · exact .inl h
  · exact .inr ⟨b, off, ha, hB, hi.below hb hB⟩
theorem ReadsUn.mono {B B' : Nat} {w : World} {a : Option Addr} {rs : List RUn} (h : ReadsUn B w a rs) (hb : B ≤ B') : ReadsUn B' w a rs := by
  rcases h with h | ⟨b, off, ha, hB, hi⟩
  · exact .inl h
  · exact .inr ⟨b, off, ha, by omega, hi⟩
theorem getUn {p : RUn → Prop} {rs : List RUn} (h : ∀ r ∈ rs, p r) {k : Nat} (hk : k < rs.length) : p (rs.getD k zUn) := by
  have e : rs.getD k zUn = rs[k] := by simp [List.getD_eq_getElem?_getD, hk]
  rw [e]; exact h _ (List.getElem_mem _)
theorem unNew (w : World) (r0 : ByteArray) (r1 : Int) : UnAt (w.alloc (Obj.cells #[.string r0, .int .i64 r1] 66)) w.heap.size 0 ⟨r0, r1⟩ :=
  ⟨by simp, by simp⟩
def UnOK (r : RUn) : Prop := r.art.size ≤ 2000000
def UnWide (r : RUn) : Prop := r.art.size ≤ maxLen ∧ (Lit.int .i64 r.pr).wf = true
end Go.Proofs.Ytlnhnocegfnllaa
