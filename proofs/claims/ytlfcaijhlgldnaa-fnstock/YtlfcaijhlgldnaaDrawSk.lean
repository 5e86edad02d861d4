/-
  The specification's drawn acts on stock: of every list of bytes it draws a short list of acts.
-/
import Derived.Test.YtlfcaijhlgldnaaSrcApt
import Derived.Test.YtlfcaijhlgldnaaSrcSize
import Derived.Test.YtlfcaijhlgldnaaSkA
import Derived.Test.YtlfcaijhlgldnaaLists0
import Derived.Deep.AppendLies
import Derived.Laws.OwnMore
namespace Go.Proofs.Ytlfcaijhlgldnaa
open Go.ChangeShapes Go.WideShapes Go.ChangeAt Go.RowKit Go.Deep
set_option linter.unusedVariables false

/-- The cells of some acts. -/
def skCells (rs : List RSk) : List Value := rs.flatMap fun r => [.int .i64 r.kd, .string r.ar, .int .i64 r.lt, .int .i64 r.nu, .int .i64 r.un]
theorem skCells_append (a b : List RSk) : skCells (a ++ b) = skCells a ++ skCells b := by simp [skCells]
theorem skCells_get : ∀ (rs : List RSk) (i : Nat), i < rs.length → (skCells rs)[i * 5]? = some (.int .i64 (rs.getD i zSk).kd) ∧ (skCells rs)[i * 5 + 1]? = some (.string (rs.getD i zSk).ar) ∧ (skCells rs)[i * 5 + 2]? = some (.int .i64 (rs.getD i zSk).lt) ∧ (skCells rs)[i * 5 + 3]? = some (.int .i64 (rs.getD i zSk).nu) ∧ (skCells rs)[i * 5 + 4]? = some (.int .i64 (rs.getD i zSk).un)
  | r :: rs, 0, h => ⟨rfl, rfl, rfl, rfl, rfl⟩
  | r :: rs, i + 1, h => by
    have := skCells_get rs i (by simpa using h)
    rw [show (i + 1) * 5 = i * 5 + 1 + 1 + 1 + 1 + 1 by omega]
    exact this
theorem sks_of_row {w : World} {B g cap : Nat} {rs : List RSk} (h : w.ownsRow B 34 5 (.slice (some ⟨g, 0, none⟩) rs.length cap) rs.length (skCells rs)) : SksAt w g 0 rs := fun i hi => by
  obtain ⟨q0, q1, q2, q3, q4⟩ := skCells_get rs i hi
  refine ⟨?_, ?_, ?_, ?_, ?_⟩
  · rw [h.cellAt (0 + i * 5) (by omega), show 0 + i * 5 = i * 5 by omega, q0]
  · rw [h.cellAt (0 + i * 5 + 1) (by omega), show 0 + i * 5 + 1 = i * 5 + 1 by omega, q1]
  · rw [h.cellAt (0 + i * 5 + 2) (by omega), show 0 + i * 5 + 2 = i * 5 + 2 by omega, q2]
  · rw [h.cellAt (0 + i * 5 + 3) (by omega), show 0 + i * 5 + 3 = i * 5 + 3 by omega, q3]
  · rw [h.cellAt (0 + i * 5 + 4) (by omega), show 0 + i * 5 + 4 = i * 5 + 4 by omega, q4]
theorem owns_sameP {w w' : World} {B : Nat} {e : TypeId} {size : Nat} {v : Value} {n : Nat} {xs : List Value} (h : w.ownsRow B e size v n xs) (hs : ∀ k, v.ownBlock = some k → w'.heap[k]? = w.heap[k]?) : w'.ownsRow B e size v n xs := by
  obtain ⟨h1, h2⟩ := h
  refine ⟨h1, ?_⟩
  rcases h2 with h2 | ⟨g, cap, cur, e, hB, hg, r⟩
  · exact .inl h2
  · exact .inr ⟨g, cap, cur, e, hB, (hs g (by rw [e]; rfl)).trans hg, r⟩
theorem src_sameP {w w' : World} {b : Nat} {a : Option Addr} {len cap : Nat} {x s : Int} (h : Src w b a len cap x s) (e : w'.heap[b]? = w.heap[b]?) (hz : w.heap.size ≤ w'.heap.size) : Src w' b a len cap x s := by
  obtain ⟨s0, s1, s2, f1, f2, sb, r⟩ := h
  exact ⟨(World.cell?_of_block (w := w) (a := ⟨b, 0, none⟩) e).trans s0, (World.cell?_of_block (w := w) (a := ⟨b, 1, none⟩) e).trans s1, (World.cell?_of_block (w := w) (a := ⟨b, 2, none⟩) e).trans s2, (World.frozen?_of_block (w := w) (a := ⟨b, 1, none⟩) e).trans f1, (World.frozen?_of_block (w := w) (a := ⟨b, 2, none⟩) e).trans f2, Nat.lt_of_lt_of_le sb hz, r⟩
/-- The source in block b, the acts drawn so far in a row of their own. -/
def SkSo (w : World) (b : Nat) (a : Option Addr) (len cap : Nat) (v : Value) (rs : List RSk) (at' sd : Int) (wr : World) : Prop :=
  wr.ownsRow (b + 1) 34 5 v rs.length (skCells rs) ∧ b + 1 ≤ wr.heap.size ∧ Src wr b a len cap at' sd ∧ Below b w wr
theorem SkSo.draw {w : World} {b : Nat} {a : Option Addr} {len cap : Nat} {v : Value} {rs : List RSk} {at' sd at2 sd2 : Int} {wr w' : World} (h : SkSo w b a len cap v rs at' sd wr) (ha : Apt b wr w') (hb : Below b wr w') (hs : Src w' b a len cap at2 sd2) : SkSo w b a len cap v rs at2 sd2 w' := by
  obtain ⟨h1, h2, h3, h4⟩ := h
  exact ⟨owns_sameP h1 (fun k hk => ha k (by have := (h1.lt k hk).1; omega)), Nat.le_trans h2 hb.size, hs, h4.trans hb⟩
theorem SkSo.drew {w : World} {b : Nat} {a : Option Addr} {len cap : Nat} {v : Value} {rs : List RSk} {at' sd : Int} {wr : World} (h : SkSo w b a len cap v rs at' sd wr) : SkSo w b a len cap v rs at' sd wr.drew := ⟨h.1, h.2.1, h.2.2.1, h.2.2.2.drew⟩
theorem SkSo.alloc {w : World} {b : Nat} {a : Option Addr} {len cap : Nat} {v : Value} {rs : List RSk} {at' sd : Int} {wr : World} (h : SkSo w b a len cap v rs at' sd wr) (o : Obj) : SkSo w b a len cap v rs at' sd (wr.alloc o) := by
  obtain ⟨h1, h2, h3, h4⟩ := h
  exact ⟨h1.alloc _, by simp; omega, src_sameP h3 (Below.heap_alloc _ _ _ h3.2.2.2.2.2.1) (by simp), h4.alloc (by omega) _⟩
theorem SkSo.push {w : World} {b : Nat} {a : Option Addr} {len cap : Nat} {v : Value} {rs : List RSk} {at' sd : Int} {wr w' : World} {g cp : Nat} {r : RSk} (h : SkSo w b a len cap v rs at' sd wr)
    (ho : w'.ownsRow (b + 1) 34 5 (.slice (some ⟨g, 0, none⟩) (rs.length + 1) cp) (rs.length + 1) (skCells rs ++ [.int .i64 r.kd, .string r.ar, .int .i64 r.lt, .int .i64 r.nu, .int .i64 r.un])) (hg : wr.grownBy w' v.ownBlock) : SkSo w b a len cap (.slice (some ⟨g, 0, none⟩) (rs.length + 1) cp) (rs ++ [r]) at' sd w' := by
  obtain ⟨q1, q2, q3, q4⟩ := h
  refine ⟨?_, Nat.le_trans q2 hg.size, src_sameP q3 (hg.block b q3.2.2.2.2.2.1 (fun e => by have := (q1.lt b e.symm).1; omega)) hg.size, q4.grown hg (by omega) (fun k hk => by have := (q1.lt k hk).1; omega)⟩
  rw [List.length_append, skCells_append]; exact ho
theorem SkSo.start {w0 w : World} {b : Nat} {a : Option Addr} {len cap : Nat} {at' sd : Int} (hs : Src w b a len cap at' sd) (hb : Below b w0 w) : SkSo w0 b a len cap (.slice (some ⟨w.heap.size, 0, none⟩) 0 0) [] at' sd (w.alloc (Obj.cells #[] 34)) := by
  have hl := hs.2.2.2.2.2.1
  exact ⟨⟨rfl, .inr ⟨w.heap.size, 0, #[], rfl, hl, heapNew w _, Nat.le_refl _, by unfold maxLen; omega, rfl, rfl⟩⟩, by simp; omega, src_sameP hs (Below.heap_alloc _ _ _ hl) (by simp), hb.alloc (by omega) _⟩
theorem skInf : (Try.prog.info? 34).map (fun i => (i.zero, i.size, i.bytes)) = some (some (.agg #[.int .i64 0, .string ⟨#[]⟩, .int .i64 0, .int .i64 0, .int .i64 0]), 5, 48) := by kernel_rfl
/-- What is drawn of an act: small numbers, a short text. -/
def SkD (r : RSk) : Prop := (-1 ≤ r.kd ∧ r.kd ≤ 100) ∧ r.ar.size ≤ 4 ∧ (-1 ≤ r.lt ∧ r.lt ≤ 1000001) ∧ (-1 ≤ r.nu ∧ r.nu ≤ 1000001) ∧ (-1 ≤ r.un ∧ r.un ≤ 1000001)
theorem SkD.ok {r : RSk} (h : SkD r) : SkWide r ∧ SkOK r := by
  obtain ⟨⟨a1, a2⟩, a3, ⟨a4, a5⟩, ⟨a6, a7⟩, a8, a9⟩ := h
  have wf : ∀ x : Int, -1 ≤ x → x ≤ 1000001 → (Lit.int .i64 x).wf = true := fun x h1 h2 => by
    have h : -9223372036854775808 ≤ x := by omega
    have h' : x ≤ 9223372036854775807 := by omega
    unfold Lit.wf
    rw [Bool.and_eq_true, decide_eq_true_eq, decide_eq_true_eq]
    exact ⟨h, h'⟩
  exact ⟨⟨wf _ a1 (by omega), by unfold maxLen; omega, wf _ a4 a5, wf _ a6 a7, wf _ a8 a9⟩, by unfold SkOK; omega⟩
end Go.Proofs.Ytlfcaijhlgldnaa
