/-
  Lists of Stop in memory.
-/
import Derived.Test.YtoogphkojofkfaaLists0
import Derived.Deep.Slices
namespace Go.Proofs.Ytoogphkojofkfaa
open Go.ChangeShapes Go.WideShapes Go.ChangeAt Go.RowKit Go.Deep
set_option linter.unusedVariables false

structure RHp where
  x : Int
  y : Int
  fr : Int
  to : Int
  sy : Int
def zHp : RHp := ⟨0, 0, 0, 0, 0⟩
/-- One lies in block b from off on, 5 cells. -/
def HpAt (w : World) (b off : Nat) (r : RHp) : Prop :=
  w.cell? ⟨b, off, none⟩ = some (.int .i64 r.x) ∧ w.cell? ⟨b, off + 1, none⟩ = some (.int .i64 r.y) ∧ w.cell? ⟨b, off + 2, none⟩ = some (.int .i64 r.fr) ∧ w.cell? ⟨b, off + 3, none⟩ = some (.int .i64 r.to) ∧ w.cell? ⟨b, off + 4, none⟩ = some (.int .i64 r.sy)
def HpsAt (w : World) (b off : Nat) (rs : List RHp) : Prop := ∀ i, i < rs.length → HpAt w b (off + i * 5) (rs.getD i zHp)
def ReadsHp (B : Nat) (w : World) (a : Option Addr) (rs : List RHp) : Prop := rs = [] ∨ ∃ b off, a = some ⟨b, off, none⟩ ∧ b < B ∧ HpsAt w b off rs
theorem HpAt.below {B : Nat} {w w' : World} {b off : Nat} {r : RHp} (h : HpAt w b off r) (hb : Below B w w') (hB : b < B) : HpAt w' b off r := by
  obtain ⟨h0, h1, h2, h3, h4⟩ := h
  exact ⟨(hb.cell (p := ⟨b, off, none⟩) hB).trans h0, (hb.cell (p := ⟨b, off + 1, none⟩) hB).trans h1, (hb.cell (p := ⟨b, off + 2, none⟩) hB).trans h2, (hb.cell (p := ⟨b, off + 3, none⟩) hB).trans h3, (hb.cell (p := ⟨b, off + 4, none⟩) hB).trans h4⟩
theorem HpsAt.below {B : Nat} {w w' : World} {b off : Nat} {rs : List RHp} (h : HpsAt w b off rs) (hb : Below B w w') (hB : b < B) : HpsAt w' b off rs := fun i hi => (h i hi).below hb hB
theorem ReadsHp.below {B : Nat} {w w' : World} {a : Option Addr} {rs : List RHp} (h : ReadsHp B w a rs) (hb : Below B w w') : ReadsHp B w' a rs := by
  rcases h with h | ⟨b, off, ha, hB, hi⟩
  · exact .inl h
  · exact .inr ⟨b, off, ha, hB, hi.below hb hB⟩
theorem ReadsHp.mono {B B' : Nat} {w : World} {a : Option Addr} {rs : List RHp} (h : ReadsHp B w a rs) (hb : B ≤ B') : ReadsHp B' w a rs := by
  rcases h with h | ⟨b, off, ha, hB, hi⟩
  · exact .inl h
  · exact .inr ⟨b, off, ha, by omega, hi⟩
theorem getHp {p : RHp → Prop} {rs : List RHp} (h : ∀ r ∈ rs, p r) {k : Nat} (hk : k < rs.length) : p (rs.getD k zHp) := by
  have e : rs.getD k zHp = rs[k] := by simp [List.getD_eq_getElem?_getD, hk]
  rw [e]; exact h _ (List.getElem_mem _)
theorem hpNew (w : World) (r0 : Int) (r1 : Int) (r2 : Int) (r3 : Int) (r4 : Int) : HpAt (w.alloc (Obj.cells #[.int .i64 r0, .int .i64 r1, .int .i64 r2, .int .i64 r3, .int .i64 r4] 37)) w.heap.size 0 ⟨r0, r1, r2, r3, r4⟩ :=
  ⟨by simp, by simp, by simp, by simp, by simp⟩
def HpOK (r : RHp) : Prop := True
def HpWide (r : RHp) : Prop := (Lit.int .i64 r.x).wf = true ∧ (Lit.int .i64 r.y).wf = true ∧ (Lit.int .i64 r.fr).wf = true ∧ (Lit.int .i64 r.to).wf = true ∧ (Lit.int .i64 r.sy).wf = true
end Go.Proofs.Ytoogphkojofkfaa
