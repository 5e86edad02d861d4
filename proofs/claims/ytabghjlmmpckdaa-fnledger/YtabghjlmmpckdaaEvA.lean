/-
  Lists of Event in memory.
-/
import Derived.Test.YtabghjlmmpckdaaLists0
import Derived.Deep.Slices
namespace Go.Proofs.Ytabghjlmmpckdaa
open Go.ChangeShapes Go.WideShapes Go.ChangeAt Go.RowKit Go.Deep
set_option linter.unusedVariables false

structure REv where
  sh : Int
  sq : Int
  tm : Int
  kd : Int
  cd : ByteArray
  am : Int
def zEv : REv := ⟨0, 0, 0, 0, ByteArray.empty, 0⟩
/-- One lies in block b from off on, 6 cells. -/
def EvAt (w : World) (b off : Nat) (r : REv) : Prop :=
  w.cell? ⟨b, off, none⟩ = some (.int .i64 r.sh) ∧ w.cell? ⟨b, off + 1, none⟩ = some (.int .i64 r.sq) ∧ w.cell? ⟨b, off + 2, none⟩ = some (.int .i64 r.tm) ∧ w.cell? ⟨b, off + 3, none⟩ = some (.int .i64 r.kd) ∧ w.cell? ⟨b, off + 4, none⟩ = some (.string r.cd) ∧ w.cell? ⟨b, off + 5, none⟩ = some (.int .i64 r.am)
def EvsAt (w : World) (b off : Nat) (rs : List REv) : Prop := ∀ i, i < rs.length → EvAt w b (off + i * 6) (rs.getD i zEv)
def ReadsEv (B : Nat) (w : World) (a : Option Addr) (rs : List REv) : Prop := rs = [] ∨ ∃ b off, a = some ⟨b, off, none⟩ ∧ b < B ∧ EvsAt w b off rs
theorem EvAt.below {B : Nat} {w w' : World} {b off : Nat} {r : REv} (h : EvAt w b off r) (hb : Below B w w') (hB : b < B) : EvAt w' b off r := by
  obtain ⟨h0, h1, h2, h3, h4, h5⟩ := h
  exact ⟨(hb.cell (p := ⟨b, off, none⟩) hB).trans h0, (hb.cell (p := ⟨b, off + 1, none⟩) hB).trans h1, (hb.cell (p := ⟨b, off + 2, none⟩) hB).trans h2, (hb.cell (p := ⟨b, off + 3, none⟩) hB).trans h3, (hb.cell (p := ⟨b, off + 4, none⟩) hB).trans h4, (hb.cell (p := ⟨b, off + 5, none⟩) hB).trans h5⟩
theorem EvsAt.below {B : Nat} {w w' : World} {b off : Nat} {rs : List REv} (h : EvsAt w b off rs) (hb : Below B w w') (hB : b < B) : EvsAt w' b off rs := fun i hi => (h i hi).below hb hB
theorem ReadsEv.below {B : Nat} {w w' : World} {a : Option Addr} {rs : List REv} (h : ReadsEv B w a rs) (hb : Below B w w') : ReadsEv B w' a rs := by
  rcases h with h | ⟨b, off, ha, hB, hi⟩
  · exact .inl h
  · exact .inr ⟨b, off, ha, hB, hi.below hb hB⟩
theorem ReadsEv.mono {B B' : Nat} {w : World} {a : Option Addr} {rs : List REv} (h : ReadsEv B w a rs) (hb : B ≤ B') : ReadsEv B' w a rs := by
  rcases h with h | ⟨b, off, ha, hB, hi⟩
  · exact .inl h
  · exact .inr ⟨b, off, ha, by omega, hi⟩
theorem getEv {p : REv → Prop} {rs : List REv} (h : ∀ r ∈ rs, p r) {k : Nat} (hk : k < rs.length) : p (rs.getD k zEv) := by
  have e : rs.getD k zEv = rs[k] := by simp [List.getD_eq_getElem?_getD, hk]
  rw [e]; exact h _ (List.getElem_mem _)
theorem evNew (w : World) (r0 : Int) (r1 : Int) (r2 : Int) (r3 : Int) (r4 : ByteArray) (r5 : Int) : EvAt (w.alloc (Obj.cells #[.int .i64 r0, .int .i64 r1, .int .i64 r2, .int .i64 r3, .string r4, .int .i64 r5] 35)) w.heap.size 0 ⟨r0, r1, r2, r3, r4, r5⟩ :=
  ⟨by simp, by simp, by simp, by simp, by simp, by simp⟩
def EvOK (r : REv) : Prop := r.cd.size ≤ 2000000
def EvWide (r : REv) : Prop := (Lit.int .i64 r.sh).wf = true ∧ (Lit.int .i64 r.sq).wf = true ∧ (Lit.int .i64 r.tm).wf = true ∧ (Lit.int .i64 r.kd).wf = true ∧ r.cd.size ≤ maxLen ∧ (Lit.int .i64 r.am).wf = true
end Go.Proofs.Ytabghjlmmpckdaa
