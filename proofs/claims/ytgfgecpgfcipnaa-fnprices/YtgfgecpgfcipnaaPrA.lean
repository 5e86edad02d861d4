/-
  Lists of PriceRow in memory.
-/
import Derived.Test.YtgfgecpgfcipnaaLists0
import Derived.Deep.Slices
namespace Go.Proofs.Ytgfgecpgfcipnaa
open Go.ChangeShapes Go.WideShapes Go.ChangeAt Go.RowKit Go.Deep
set_option linter.unusedVariables false

structure RPr where
  art : ByteArray
  zn : ByteArray
  lv : Int
  fr : Int
  to : Int
  am : Int
def zPr : RPr := ⟨ByteArray.empty, ByteArray.empty, 0, 0, 0, 0⟩
/-- One lies in block b from off on, 6 cells. -/
def PrAt (w : World) (b off : Nat) (r : RPr) : Prop :=
  w.cell? ⟨b, off, none⟩ = some (.string r.art) ∧ w.cell? ⟨b, off + 1, none⟩ = some (.string r.zn) ∧ w.cell? ⟨b, off + 2, none⟩ = some (.int .i64 r.lv) ∧ w.cell? ⟨b, off + 3, none⟩ = some (.int .i64 r.fr) ∧ w.cell? ⟨b, off + 4, none⟩ = some (.int .i64 r.to) ∧ w.cell? ⟨b, off + 5, none⟩ = some (.int .i64 r.am)
def PrsAt (w : World) (b off : Nat) (rs : List RPr) : Prop := ∀ i, i < rs.length → PrAt w b (off + i * 6) (rs.getD i zPr)
def ReadsPr (B : Nat) (w : World) (a : Option Addr) (rs : List RPr) : Prop := rs = [] ∨ ∃ b off, a = some ⟨b, off, none⟩ ∧ b < B ∧ PrsAt w b off rs
theorem PrAt.below {B : Nat} {w w' : World} {b off : Nat} {r : RPr} (h : PrAt w b off r) (hb : Below B w w') (hB : b < B) : PrAt w' b off r := by
  obtain ⟨h0, h1, h2, h3, h4, h5⟩ := h
  exact ⟨(hb.cell (p := ⟨b, off, none⟩) hB).trans h0, (hb.cell (p := ⟨b, off + 1, none⟩) hB).trans h1, (hb.cell (p := ⟨b, off + 2, none⟩) hB).trans h2, (hb.cell (p := ⟨b, off + 3, none⟩) hB).trans h3, (hb.cell (p := ⟨b, off + 4, none⟩) hB).trans h4, (hb.cell (p := ⟨b, off + 5, none⟩) hB).trans h5⟩
theorem PrsAt.below {B : Nat} {w w' : World} {b off : Nat} {rs : List RPr} (h : PrsAt w b off rs) (hb : Below B w w') (hB : b < B) : PrsAt w' b off rs := fun i hi => (h i hi).below hb hB
theorem ReadsPr.below {B : Nat} {w w' : World} {a : Option Addr} {rs : List RPr} (h : ReadsPr B w a rs) (hb : Below B w w') : ReadsPr B w' a rs := by
  rcases h with h | ⟨b, off, ha, hB, hi⟩
  · exact .inl h
  · exact .inr ⟨b, off, ha, hB, hi.below hb hB⟩
theorem ReadsPr.mono {B B' : Nat} {w : World} {a : Option Addr} {rs : List RPr} (h : ReadsPr B w a rs) (hb : B ≤ B') : ReadsPr B' w a rs := by
  rcases h with h | ⟨b, off, ha, hB, hi⟩
  · exact .inl h
  · exact .inr ⟨b, off, ha, by omega, hi⟩
theorem getPr {p : RPr → Prop} {rs : List RPr} (h : ∀ r ∈ rs, p r) {k : Nat} (hk : k < rs.length) : p (rs.getD k zPr) := by
  have e : rs.getD k zPr = rs[k] := by simp [List.getD_eq_getElem?_getD, hk]
  rw [e]; exact h _ (List.getElem_mem _)
theorem prNew (w : World) (r0 : ByteArray) (r1 : ByteArray) (r2 : Int) (r3 : Int) (r4 : Int) (r5 : Int) : PrAt (w.alloc (Obj.cells #[.string r0, .string r1, .int .i64 r2, .int .i64 r3, .int .i64 r4, .int .i64 r5] 36)) w.heap.size 0 ⟨r0, r1, r2, r3, r4, r5⟩ :=
  ⟨by simp, by simp, by simp, by simp, by simp, by simp⟩
def PrOK (r : RPr) : Prop := r.art.size ≤ 2000000 ∧ r.zn.size ≤ 2000000
def PrWide (r : RPr) : Prop := r.art.size ≤ maxLen ∧ r.zn.size ≤ maxLen ∧ (Lit.int .i64 r.lv).wf = true ∧ (Lit.int .i64 r.fr).wf = true ∧ (Lit.int .i64 r.to).wf = true ∧ (Lit.int .i64 r.am).wf = true
end Go.Proofs.Ytgfgecpgfcipnaa
