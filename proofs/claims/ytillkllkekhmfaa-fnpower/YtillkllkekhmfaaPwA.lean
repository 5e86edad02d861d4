/-
  Lists of Power in memory.
-/
import Derived.Test.YtillkllkekhmfaaFlS
import Derived.Deep.Slices
namespace Go.Proofs.Ytillkllkekhmfaa
open Go.ChangeShapes Go.WideShapes Go.ChangeAt Go.RowKit Go.Deep
set_option linter.unusedVariables false
attribute [local go_sem] run_store_float

structure RPw where
  re : Nat
  im : Nat
def zPw : RPw := ⟨0, 0⟩
/-- One lies in block b from off on, 2 cells. -/
def PwAt (w : World) (b off : Nat) (r : RPw) : Prop :=
  w.cell? ⟨b, off, none⟩ = some (.float .f64 r.re) ∧ w.cell? ⟨b, off + 1, none⟩ = some (.float .f64 r.im)
def PwsAt (w : World) (b off : Nat) (rs : List RPw) : Prop := ∀ i, i < rs.length → PwAt w b (off + i * 2) (rs.getD i zPw)
def ReadsPw (B : Nat) (w : World) (a : Option Addr) (rs : List RPw) : Prop := rs = [] ∨ ∃ b off, a = some ⟨b, off, none⟩ ∧ b < B ∧ PwsAt w b off rs
theorem PwAt.below {B : Nat} {w w' : World} {b off : Nat} {r : RPw} (h : PwAt w b off r) (hb : Below B w w') (hB : b < B) : PwAt w' b off r := by
  obtain ⟨h0, h1⟩ := h
  exact ⟨(hb.cell (p := ⟨b, off, none⟩) hB).trans h0, (hb.cell (p := ⟨b, off + 1, none⟩) hB).trans h1⟩
theorem PwsAt.below {B : Nat} {w w' : World} {b off : Nat} {rs : List RPw} (h : PwsAt w b off rs) (hb : Below B w w') (hB : b < B) : PwsAt w' b off rs := fun i hi => (h i hi).below hb hB
theorem ReadsPw.below {B : Nat} {w w' : World} {a : Option Addr} {rs : List RPw} (h : ReadsPw B w a rs) (hb : Below B w w') : ReadsPw B w' a rs := by
  rcases h with h | ⟨b, off, ha, hB, hi⟩
  · exact .inl h
  · exact .inr ⟨b, off, ha, hB, hi.below hb hB⟩
theorem ReadsPw.mono {B B' : Nat} {w : World} {a : Option Addr} {rs : List RPw} (h : ReadsPw B w a rs) (hb : B ≤ B') : ReadsPw B' w a rs := by
  rcases h with h | ⟨b, off, ha, hB, hi⟩
  · exact .inl h
  · exact .inr ⟨b, off, ha, by omega, hi⟩
theorem getPw {p : RPw → Prop} {rs : List RPw} (h : ∀ r ∈ rs, p r) {k : Nat} (hk : k < rs.length) : p (rs.getD k zPw) := by
  have e : rs.getD k zPw = rs[k] := by simp [List.getD_eq_getElem?_getD, hk]
  rw [e]; exact h _ (List.getElem_mem _)
theorem pwNew (w : World) (r0 : Nat) (r1 : Nat) : PwAt (w.alloc (Obj.cells #[.float .f64 r0, .float .f64 r1] 43)) w.heap.size 0 ⟨r0, r1⟩ :=
  ⟨by simp, by simp⟩
def PwOK (r : RPw) : Prop := True
def PwWide (r : RPw) : Prop := True
end Go.Proofs.Ytillkllkekhmfaa
