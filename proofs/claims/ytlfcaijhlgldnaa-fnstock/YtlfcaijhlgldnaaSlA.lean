/-
  Lists of StockLot in memory.
-/
import Derived.Test.YtlfcaijhlgldnaaLists0
import Derived.Deep.Slices
namespace Go.Proofs.Ytlfcaijhlgldnaa
open Go.ChangeShapes Go.WideShapes Go.ChangeAt Go.RowKit Go.Deep
set_option linter.unusedVariables false

structure RSl where
  ar : ByteArray
  lt : Int
  nu : Int
  un : Int
  hd : Bool
def zSl : RSl := ⟨ByteArray.empty, 0, 0, 0, false⟩
/-- One lies in block b from off on, 5 cells. -/
def SlAt (w : World) (b off : Nat) (r : RSl) : Prop :=
  w.cell? ⟨b, off, none⟩ = some (.string r.ar) ∧ w.cell? ⟨b, off + 1, none⟩ = some (.int .i64 r.lt) ∧ w.cell? ⟨b, off + 2, none⟩ = some (.int .i64 r.nu) ∧ w.cell? ⟨b, off + 3, none⟩ = some (.int .i64 r.un) ∧ w.cell? ⟨b, off + 4, none⟩ = some (.bool r.hd)
def SlsAt (w : World) (b off : Nat) (rs : List RSl) : Prop := ∀ i, i < rs.length → SlAt w b (off + i * 5) (rs.getD i zSl)
def ReadsSl (B : Nat) (w : World) (a : Option Addr) (rs : List RSl) : Prop := rs = [] ∨ ∃ b off, a = some ⟨b, off, none⟩ ∧ b < B ∧ SlsAt w b off rs
theorem SlAt.below {B : Nat} {w w' : World} {b off : Nat} {r : RSl} (h : SlAt w b off r) (hb : Below B w w') (hB : b < B) : SlAt w' b off r := by
  obtain ⟨h0, h1, h2, h3, h4⟩ := h
  exact ⟨(hb.cell (p := ⟨b, off, none⟩) hB).trans h0, (hb.cell (p := ⟨b, off + 1, none⟩) hB).trans h1, (hb.cell (p := ⟨b, off + 2, none⟩) hB).trans h2, (hb.cell (p := ⟨b, off + 3, none⟩) hB).trans h3, (hb.cell (p := ⟨b, off + 4, none⟩) hB).trans h4⟩
theorem SlsAt.below {B : Nat} {w w' : World} {b off : Nat} {rs : List RSl} (h : SlsAt w b off rs) (hb : Below B w w') (hB : b < B) : SlsAt w' b off rs := fun i hi => (h i hi).below hb hB
theorem ReadsSl.below {B : Nat} {w w' : World} {a : Option Addr} {rs : List RSl} (h : ReadsSl B w a rs) (hb : Below B w w') : ReadsSl B w' a rs := by
  rcases h with h | ⟨b, off, ha, hB, hi⟩
  · exact .inl h
  · exact .inr ⟨b, off, ha, hB, hi.below hb hB⟩
theorem ReadsSl.mono {B B' : Nat} {w : World} {a : Option Addr} {rs : List RSl} (h : ReadsSl B w a rs) (hb : B ≤ B') : ReadsSl B' w a rs := by
  rcases h with h | ⟨b, off, ha, hB, hi⟩
  · exact .inl h
  · exact .inr ⟨b, off, ha, by omega, hi⟩
theorem getSl {p : RSl → Prop} {rs : List RSl} (h : ∀ r ∈ rs, p r) {k : Nat} (hk : k < rs.length) : p (rs.getD k zSl) := by
  have e : rs.getD k zSl = rs[k] := by simp [List.getD_eq_getElem?_getD, hk]
  rw [e]; exact h _ (List.getElem_mem _)
theorem slNew (w : World) (r0 : ByteArray) (r1 : Int) (r2 : Int) (r3 : Int) (r4 : Bool) : SlAt (w.alloc (Obj.cells #[.string r0, .int .i64 r1, .int .i64 r2, .int .i64 r3, .bool r4] 38)) w.heap.size 0 ⟨r0, r1, r2, r3, r4⟩ :=
  ⟨by simp, by simp, by simp, by simp, by simp⟩
def SlOK (r : RSl) : Prop := r.ar.size ≤ 2000000
def SlWide (r : RSl) : Prop := r.ar.size ≤ maxLen ∧ (Lit.int .i64 r.lt).wf = true ∧ (Lit.int .i64 r.nu).wf = true ∧ (Lit.int .i64 r.un).wf = true ∧ True
end Go.Proofs.Ytlfcaijhlgldnaa
