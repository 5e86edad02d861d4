/-
  Lists of Coins in memory.
-/
import Derived.Test.YtngnmlifbjpkoaaLists0
import Derived.Deep.Slices
namespace Go.Proofs.Ytngnmlifbjpkoaa
open Go.ChangeShapes Go.WideShapes Go.ChangeAt Go.RowKit Go.Deep
set_option linter.unusedVariables false

structure RCo where
  vl : Int
  ct : Int
def zCo : RCo := ⟨0, 0⟩
/-- One lies in block b from off on, 2 cells. -/
def CoAt (w : World) (b off : Nat) (r : RCo) : Prop :=
  w.cell? ⟨b, off, none⟩ = some (.int .i64 r.vl) ∧ w.cell? ⟨b, off + 1, none⟩ = some (.int .i64 r.ct)
def CosAt (w : World) (b off : Nat) (rs : List RCo) : Prop := ∀ i, i < rs.length → CoAt w b (off + i * 2) (rs.getD i zCo)
def ReadsCo (B : Nat) (w : World) (a : Option Addr) (rs : List RCo) : Prop := rs = [] ∨ ∃ b off, a = some ⟨b, off, none⟩ ∧ b < B ∧ CosAt w b off rs
theorem CoAt.below {B : Nat} {w w' : World} {b off : Nat} {r : RCo} (h : CoAt w b off r) (hb : Below B w w') (hB : b < B) : CoAt w' b off r := by
  obtain ⟨h0, h1⟩ := h
  exact ⟨(hb.cell (p := ⟨b, off, none⟩) hB).trans h0, (hb.cell (p := ⟨b, off + 1, none⟩) hB).trans h1⟩
theorem CosAt.below {B : Nat} {w w' : World} {b off : Nat} {rs : List RCo} (h : CosAt w b off rs) (hb : Below B w w') (hB : b < B) : CosAt w' b off rs := fun i hi => (h i hi).below hb hB
theorem ReadsCo.below {B : Nat} {w w' : World} {a : Option Addr} {rs : List RCo} (h : ReadsCo B w a rs) (hb : Below B w w') : ReadsCo B w' a rs := by
  rcases h with h | ⟨b, off, ha, hB, hi⟩
  · exact .inl h
  · exact .inr ⟨b, off, ha, hB, hi.below hb hB⟩
theorem ReadsCo.mono {B B' : Nat} {w : World} {a : Option Addr} {rs : List RCo} (h : ReadsCo B w a rs) (hb : B ≤ B') : ReadsCo B' w a rs := by
  rcases h with h | ⟨b, off, ha, hB, hi⟩
  · exact .inl h
  · exact .inr ⟨b, off, ha, by omega, hi⟩
theorem getCo {p : RCo → Prop} {rs : List RCo} (h : ∀ r ∈ rs, p r) {k : Nat} (hk : k < rs.length) : p (rs.getD k zCo) := by
  have e : rs.getD k zCo = rs[k] := by simp [List.getD_eq_getElem?_getD, hk]
  rw [e]; exact h _ (List.getElem_mem _)
theorem coNew (w : World) (r0 : Int) (r1 : Int) : CoAt (w.alloc (Obj.cells #[.int .i64 r0, .int .i64 r1] 33)) w.heap.size 0 ⟨r0, r1⟩ :=
  ⟨by simp, by simp⟩
def CoOK (r : RCo) : Prop := True
def CoWide (r : RCo) : Prop := (Lit.int .i64 r.vl).wf = true ∧ (Lit.int .i64 r.ct).wf = true
end Go.Proofs.Ytngnmlifbjpkoaa
