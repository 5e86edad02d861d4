/-
  Lists of Clause in memory, each with its list of Term; the laws' own szClauseS.
-/
import Derived.Test.YtfofdeenpcbglaaTmE
import Derived.Laws.OwnMore
namespace Go.Proofs.Ytfofdeenpcbglaa
open Go.ChangeShapes Go.WideShapes Go.ChangeAt Go.RowKit Go.Deep
set_option linter.unusedVariables false

structure CCl where
  nm : ByteArray
  ts : List RTm
  ac : Int
  nu : Int
def zCl : CCl := ⟨ByteArray.empty, [], 0, 0⟩
def ClAt (w : World) (b off : Nat) (h : Option Addr) (cp : Nat) (c : CCl) : Prop :=
  w.cell? ⟨b, off, none⟩ = some (.string c.nm) ∧ w.cell? ⟨b, off + 1, none⟩ = some (.slice h c.ts.length cp) ∧ w.cell? ⟨b, off + 2, none⟩ = some (.int .i64 c.ac) ∧ w.cell? ⟨b, off + 3, none⟩ = some (.int .i64 c.nu)
theorem ClAt.below {B : Nat} {w w' : World} {b off : Nat} {h : Option Addr} {cp : Nat} {c : CCl} (k : ClAt w b off h cp c) (hb : Below B w w') (hB : b < B) : ClAt w' b off h cp c := by
  obtain ⟨h0, h1, h2, h3⟩ := k
  exact ⟨(hb.cell (p := ⟨b, off, none⟩) hB).trans h0, (hb.cell (p := ⟨b, off + 1, none⟩) hB).trans h1, (hb.cell (p := ⟨b, off + 2, none⟩) hB).trans h2, (hb.cell (p := ⟨b, off + 3, none⟩) hB).trans h3⟩
def ClsAt (B : Nat) (w : World) (b off : Nat) (cs : List CCl) : Prop := ∀ i, i < cs.length → ∃ h cp, ClAt w b (off + i * 4) h cp (cs.getD i zCl) ∧ (cs.getD i zCl).ts.length ≤ cp ∧ ReadsTm B w h (cs.getD i zCl).ts
def ReadsCl (B : Nat) (w : World) (a : Option Addr) (cs : List CCl) : Prop := cs = [] ∨ ∃ b off, a = some ⟨b, off, none⟩ ∧ b < B ∧ ClsAt B w b off cs
theorem ClsAt.below {B D : Nat} {w w' : World} {b off : Nat} {cs : List CCl} (h : ClsAt B w b off cs) (hb : Below D w w') (hB : b < D) (hD : B ≤ D) : ClsAt B w' b off cs := fun i hi => by
  obtain ⟨h', cp, k, k', k''⟩ := h i hi
  exact ⟨h', cp, k.below hb hB, k', k''.below (hb.mono hD)⟩
theorem ClsAt.mono {B B' : Nat} {w : World} {b off : Nat} {cs : List CCl} (h : ClsAt B w b off cs) (hb : B ≤ B') : ClsAt B' w b off cs := fun i hi => by
  obtain ⟨h', cp, k, k', k''⟩ := h i hi
  exact ⟨h', cp, k, k', k''.mono hb⟩
theorem ReadsCl.below {B : Nat} {w w' : World} {a : Option Addr} {cs : List CCl} (h : ReadsCl B w a cs) (hb : Below B w w') : ReadsCl B w' a cs := by
  rcases h with h | ⟨b, off, ha, hB, hi⟩
  · exact .inl h
  · exact .inr ⟨b, off, ha, hB, hi.below hb hB (Nat.le_refl _)⟩
theorem ReadsCl.mono {B B' : Nat} {w : World} {a : Option Addr} {cs : List CCl} (h : ReadsCl B w a cs) (hb : B ≤ B') : ReadsCl B' w a cs := by
  rcases h with h | ⟨b, off, ha, hB, hi⟩
  · exact .inl h
  · exact .inr ⟨b, off, ha, by omega, hi.mono hb⟩
theorem ReadsCl.later {w w' : World} {a : Option Addr} {cs : List CCl} (h : ReadsCl w.heap.size w a cs) (hb : Below w.heap.size w w') : ReadsCl w'.heap.size w' a cs := (h.below hb).mono hb.size
theorem ReadsTm.later {w w' : World} {a : Option Addr} {cs : List RTm} (h : ReadsTm w.heap.size w a cs) (hb : Below w.heap.size w w') : ReadsTm w'.heap.size w' a cs := (h.below hb).mono hb.size
theorem getCl {p : CCl → Prop} {cs : List CCl} (h : ∀ r ∈ cs, p r) {k : Nat} (hk : k < cs.length) : p (cs.getD k zCl) := by
  have e : cs.getD k zCl = cs[k] := by simp [List.getD_eq_getElem?_getD, hk]
  rw [e]; exact h _ (List.getElem_mem _)
theorem take_nextCl {p : CCl → Prop} {rs : List CCl} {k : Nat} (h : k < rs.length) (ha : ∀ r ∈ rs.take k, p r) (hk : p (rs.getD k zCl)) : ∀ r ∈ rs.take (k + 1), p r := fun r hr => by
  rw [List.take_succ_eq_append_getElem h] at hr
  rcases List.mem_append.mp hr with h' | h'
  · exact ha r h'
  · simp at h'
    have e : rs.getD k zCl = rs[k] := by simp [List.getD_eq_getElem?_getD, h]
    rw [h', ← e]; exact hk
def ClOK (c : CCl) : Prop := c.nm.size ≤ 2000000 ∧ c.ts.length ≤ 1048576
def ClWide (c : CCl) : Prop := c.nm.size ≤ maxLen ∧ c.ts.length ≤ maxLen
def totCl (cs : List CCl) : Nat := (cs.map (fun r => r.ts.length)).sum


end Go.Proofs.Ytfofdeenpcbglaa
