/-
  Lists of StockAct in memory.
-/
import Derived.Test.YtlfcaijhlgldnaaLists0
import Derived.Deep.Slices
namespace Go.Proofs.Ytlfcaijhlgldnaa
open Go.ChangeShapes Go.WideShapes Go.ChangeAt Go.RowKit Go.Deep
set_option linter.unusedVariables false

structure RSk where
  kd : Int
  ar : ByteArray
  lt : Int
  nu : Int
  un : Int
def zSk : RSk := ⟨0, ByteArray.empty, 0, 0, 0⟩
/-- One lies in block b from off on, 5 cells. -/
def SkAt (w : World) (b off : Nat) (r : RSk) : Prop :=
  w.cell? ⟨b, off, none⟩ = some (.int .i64 r.kd) ∧ w.cell? ⟨b, off + 1, none⟩ = some (.string r.ar) ∧ w.cell? ⟨b, off + 2, none⟩ = some (.int .i64 r.lt) ∧ w.cell? ⟨b, off + 3, none⟩ = some (.int .i64 r.nu) ∧ w.cell? ⟨b, off + 4, none⟩ = some (.int .i64 r.un)
def SksAt (w : World) (b off : Nat) (rs : List RSk) : Prop := ∀ i, i < rs.length → SkAt w b (off + i * 5) (rs.getD i zSk)
def ReadsSk (B : Nat) (w : World) (a : Option Addr) (rs : List RSk) : Prop := rs = [] ∨ ∃ b off, a = some ⟨b, off, none⟩ ∧ b < B ∧ SksAt w b off rs
theorem SkAt.below {B : Nat} {w w' : World} {b off : Nat} {r : RSk} (h : SkAt w b off r) (hb : Below B w w') (hB : b < B) : SkAt w' b off r := by
  obtain ⟨h0, h1, h2, h3, h4⟩ := h
  exact ⟨(hb.cell (p := ⟨b, off, none⟩) hB).trans h0, (hb.cell (p := ⟨b, off + 1, none⟩) hB).trans h1, (hb.cell (p := ⟨b, off + 2, none⟩) hB).trans h2, (hb.cell (p := ⟨b, off + 3, none⟩) hB).trans h3, (hb.cell (p := ⟨b, off + 4, none⟩) hB).trans h4⟩
theorem SksAt.below {B : Nat} {w w' : World} {b off : Nat} {rs : List RSk} (h : SksAt w b off rs) (hb : Below B w w') (hB : b < B) : SksAt w' b off rs := fun i hi => (h i hi).below hb hB
theorem ReadsSk.below {B : Nat} {w w' : World} {a : Option Addr} {rs : List RSk} (h : ReadsSk B w a rs) (hb : Below B w w') : ReadsSk B w' a rs := by
  rcases h with h | ⟨b, off, ha, hB, hi⟩
  · exact .inl h
  · exact .inr ⟨b, off, ha, hB, hi.below hb hB⟩
theorem ReadsSk.mono {B B' : Nat} {w : World} {a : Option Addr} {rs : List RSk} (h : ReadsSk B w a rs) (hb : B ≤ B') : ReadsSk B' w a rs := by
  rcases h with h | ⟨b, off, ha, hB, hi⟩
  · exact .inl h
  · exact .inr ⟨b, off, ha, by omega, hi⟩
theorem getSk {p : RSk → Prop} {rs : List RSk} (h : ∀ r ∈ rs, p r) {k : Nat} (hk : k < rs.length) : p (rs.getD k zSk) := by
  have e : rs.getD k zSk = rs[k] := by simp [List.getD_eq_getElem?_getD, hk]
  rw [e]; exact h _ (List.getElem_mem _)
theorem skNew (w : World) (r0 : Int) (r1 : ByteArray) (r2 : Int) (r3 : Int) (r4 : Int) : SkAt (w.alloc (Obj.cells #[.int .i64 r0, .string r1, .int .i64 r2, .int .i64 r3, .int .i64 r4] 34)) w.heap.size 0 ⟨r0, r1, r2, r3, r4⟩ :=
  ⟨by simp, by simp, by simp, by simp, by simp⟩
def SkOK (r : RSk) : Prop := r.ar.size ≤ 2000000
def SkWide (r : RSk) : Prop := (Lit.int .i64 r.kd).wf = true ∧ r.ar.size ≤ maxLen ∧ (Lit.int .i64 r.lt).wf = true ∧ (Lit.int .i64 r.nu).wf = true ∧ (Lit.int .i64 r.un).wf = true
end Go.Proofs.Ytlfcaijhlgldnaa
