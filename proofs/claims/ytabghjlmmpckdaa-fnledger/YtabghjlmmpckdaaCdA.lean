/-
  Lists of Card in memory.
-/
import Derived.Test.YtabghjlmmpckdaaLists0
import Derived.Deep.Slices
namespace Go.Proofs.Ytabghjlmmpckdaa
open Go.ChangeShapes Go.WideShapes Go.ChangeAt Go.RowKit Go.Deep
set_option linter.unusedVariables false

structure RCd where
  nm : ByteArray
  lf : Int
  ld : Int
  sp : Int
def zCd : RCd := ⟨ByteArray.empty, 0, 0, 0⟩
/-- One lies in block b from off on, 4 cells. -/
def CdAt (w : World) (b off : Nat) (r : RCd) : Prop :=
  w.cell? ⟨b, off, none⟩ = some (.string r.nm) ∧ w.cell? ⟨b, off + 1, none⟩ = some (.int .i64 r.lf) ∧ w.cell? ⟨b, off + 2, none⟩ = some (.int .i64 r.ld) ∧ w.cell? ⟨b, off + 3, none⟩ = some (.int .i64 r.sp)
def CdsAt (w : World) (b off : Nat) (rs : List RCd) : Prop := ∀ i, i < rs.length → CdAt w b (off + i * 4) (rs.getD i zCd)
def ReadsCd (B : Nat) (w : World) (a : Option Addr) (rs : List RCd) : Prop := rs = [] ∨ ∃ b off, a = some ⟨b, off, none⟩ ∧ b < B ∧ CdsAt w b off rs
theorem CdAt.below {B : Nat} {w w' : World} {b off : Nat} {r : RCd} (h : CdAt w b off r) (hb : Below B w w') (hB : b < B) : CdAt w' b off r := by
  obtain ⟨h0, h1, h2, h3⟩ := h
  exact ⟨(hb.cell (p := ⟨b, off, none⟩) hB).trans h0, (hb.cell (p := ⟨b, off + 1, none⟩) hB).trans h1, (hb.cell (p := ⟨b, off + 2, none⟩) hB).trans h2, (hb.cell (p := ⟨b, off + 3, none⟩) hB).trans h3⟩
theorem CdsAt.below {B : Nat} {w w' : World} {b off : Nat} {rs : List RCd} (h : CdsAt w b off rs) (hb : Below B w w') (hB : b < B) : CdsAt w' b off rs := fun i hi => (h i hi).below hb hB
theorem ReadsCd.below {B : Nat} {w w' : World} {a : Option Addr} {rs : List RCd} (h : ReadsCd B w a rs) (hb : Below B w w') : ReadsCd B w' a rs := by
  rcases h with h | ⟨b, off, ha, hB, hi⟩
  · exact .inl h
  · exact .inr ⟨b, off, ha, hB, hi.below hb hB⟩
theorem ReadsCd.mono {B B' : Nat} {w : World} {a : Option Addr} {rs : List RCd} (h : ReadsCd B w a rs) (hb : B ≤ B') : ReadsCd B' w a rs := by
  rcases h with h | ⟨b, off, ha, hB, hi⟩
  · exact .inl h
  · exact .inr ⟨b, off, ha, by omega, hi⟩
theorem getCd {p : RCd → Prop} {rs : List RCd} (h : ∀ r ∈ rs, p r) {k : Nat} (hk : k < rs.length) : p (rs.getD k zCd) := by
  have e : rs.getD k zCd = rs[k] := by simp [List.getD_eq_getElem?_getD, hk]
  rw [e]; exact h _ (List.getElem_mem _)
theorem cdNew (w : World) (r0 : ByteArray) (r1 : Int) (r2 : Int) (r3 : Int) : CdAt (w.alloc (Obj.cells #[.string r0, .int .i64 r1, .int .i64 r2, .int .i64 r3] 39)) w.heap.size 0 ⟨r0, r1, r2, r3⟩ :=
  ⟨by simp, by simp, by simp, by simp⟩
def CdOK (r : RCd) : Prop := r.nm.size ≤ 2000000
def CdWide (r : RCd) : Prop := r.nm.size ≤ maxLen ∧ (Lit.int .i64 r.lf).wf = true ∧ (Lit.int .i64 r.ld).wf = true ∧ (Lit.int .i64 r.sp).wf = true
end Go.Proofs.Ytabghjlmmpckdaa
