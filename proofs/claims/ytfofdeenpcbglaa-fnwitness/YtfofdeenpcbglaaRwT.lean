/-
  Rows of terms that grow by append.
-/
import Derived.Test.YtfofdeenpcbglaaTmE
import Derived.Test.YtfofdeenpcbglaaRow1
namespace Go.Proofs.Ytfofdeenpcbglaa
open Go.ChangeShapes Go.WideShapes Go.ChangeAt Go.RowKit Go.Deep
set_option linter.unusedVariables false

def tmCells (ts : List RTm) : List Value := ts.flatMap fun t => [.int .i64 t.fd, .int .i64 t.op, .int .i64 t.nu]
theorem tmCells_length (ts : List RTm) : (tmCells ts).length = ts.length * 3 := by
  induction ts with
  | nil => rfl
  | cons t ts ih => simp [tmCells] at *; omega
theorem tmCells_append (ts us : List RTm) : tmCells (ts ++ us) = tmCells ts ++ tmCells us := by simp [tmCells]
theorem tmCells_at : ∀ (ts : List RTm) (i : Nat), i < ts.length → (tmCells ts)[i * 3]? = some (.int .i64 (ts.getD i zTm).fd) ∧ (tmCells ts)[i * 3 + 1]? = some (.int .i64 (ts.getD i zTm).op) ∧ (tmCells ts)[i * 3 + 2]? = some (.int .i64 (ts.getD i zTm).nu)
  | [], i, h => by simp at h
  | t :: ts, 0, _ => ⟨rfl, rfl, rfl⟩
  | t :: ts, i + 1, h => by
    have ih := tmCells_at ts i (by simpa using h)
    have e : tmCells (t :: ts) = .int .i64 t.fd :: .int .i64 t.op :: .int .i64 t.nu :: tmCells ts := by simp [tmCells]
    rw [e, show (i + 1) * 3 = i * 3 + 3 by omega]
    simpa using ih
theorem tmCells_one (ts : List RTm) : ∀ u ∈ tmCells ts, u.oneCell' = true := by
  intro u hu
  simp only [tmCells, List.mem_flatMap] at hu
  obtain ⟨t, _, ht⟩ := hu
  simp at ht
  rcases ht with rfl | rfl | rfl <;> rfl
theorem tmNews {B : Nat} {w : World} {g : Nat} {ts : List RTm} (h : ReadsTm B w (some ⟨g, 0, none⟩) ts) : ∀ j u, (tmCells ts)[j]? = some u → w.cell? ((⟨g, 0, none⟩ : Addr).add j) = some u := fun j u hj => by
  have hadd : (⟨g, 0, none⟩ : Addr).add j = ⟨g, j, none⟩ := by unfold Addr.add; split <;> simp_all
  have hlt : j < ts.length * 3 := by rw [← tmCells_length]; exact (List.getElem?_eq_some_iff.1 hj).1
  rw [hadd]
  rcases h with h | ⟨b, off, ha, _, hi⟩
  · rw [h] at hlt; simp at hlt
  · simp at ha
    obtain ⟨rfl, rfl⟩ := ha
    obtain ⟨c0, c1, c2⟩ := hi (j / 3) (by omega)
    obtain ⟨d0, d1, d2⟩ := tmCells_at ts (j / 3) (by omega)
    rw [Nat.zero_add] at c0 c1 c2
    rcases (by omega : j = j / 3 * 3 ∨ j = j / 3 * 3 + 1 ∨ j = j / 3 * 3 + 2) with e | e | e
    · rw [e] at hj ⊢; rw [d0] at hj; rw [c0]; exact hj
    · rw [e] at hj ⊢; rw [d1] at hj; rw [c1]; exact hj
    · rw [e] at hj ⊢; rw [d2] at hj; rw [c2]; exact hj
theorem ownEmptyTm (w : World) (B : Nat) (h : B ≤ w.heap.size) : (w.alloc (Obj.cells #[] 37)).ownsRow B 37 3 (.slice (some ⟨w.heap.size, 0, none⟩) ([] : List RTm).length 0) ([] : List RTm).length (tmCells []) :=
  ⟨rfl, .inr ⟨w.heap.size, 0, #[], rfl, h, heapNew w _, Nat.le_refl _, by unfold maxLen; omega, rfl, rfl⟩⟩
theorem ownReadsTm {w : World} {B g cp : Nat} {ts : List RTm} (h : w.ownsRow B 37 3 (.slice (some ⟨g, 0, none⟩) ts.length cp) ts.length (tmCells ts)) : ReadsTm w.heap.size w (some ⟨g, 0, none⟩) ts := by
  by_cases h0 : ts.length = 0
  · exact .inl (List.eq_nil_of_length_eq_zero h0)
  · obtain ⟨g', cap, he, hB, hlt⟩ := h.form (by omega)
    simp at he
    obtain ⟨rfl, rfl⟩ := he
    refine .inr ⟨g, 0, rfl, hlt, fun i hi => ?_⟩
    obtain ⟨d0, d1, d2⟩ := tmCells_at ts i hi
    have c : ∀ j u, j < ts.length * 3 → (tmCells ts)[j]? = some u → w.cell? ⟨g, j, none⟩ = some u := fun j u hj hu => by
      rw [h.cellAt j (by omega)]; exact hu
    rw [Nat.zero_add]
    exact ⟨c _ _ (by omega) d0, c _ _ (by omega) d1, c _ _ (by omega) d2⟩
theorem grownSelf (w : World) (o : Option Nat) : w.grownBy w o := ⟨rfl, rfl, rfl, Nat.le_refl _, fun _ _ _ => rfl⟩
theorem tmInfoR : (Try.prog.info? 37).map (fun i => (i.zero, i.size, i.bytes)) = some (some (.agg #[.int .i64 0, .int .i64 0, .int .i64 0]), 3, 24) := by kernel_rfl
/-- v is a row of terms of its own, from block B on. -/
def OneT (w : World) (B : Nat) (v : Value) (ts : List RTm) (wr : World) : Prop :=
  wr.ownsRow B 37 3 v ts.length (tmCells ts) ∧ B ≤ wr.heap.size ∧ Below B w wr
theorem OneT.made (w : World) (B : Nat) (hB : w.heap.size = B) (n : Nat) (hn : n ≤ 100000000) : OneT w B (.slice (some ⟨B, 0, none⟩) 0 n) [] (w.alloc (Obj.cells (madeCells #[.int .i64 0, .int .i64 0, .int .i64 0] (n * 3)) 37)) := by
  subst hB
  exact ⟨World.ownsRow_made w _ n (Nat.le_refl _) (by unfold maxLen; omega) (by rw [size_madeCells]), by simp, below_alloc w _⟩
theorem OneT.later {w : World} {B : Nat} {v : Value} {L : List RTm} {wr w' : World} (h : OneT w B v L wr) (hb : Below wr.heap.size wr w') : OneT w B v L w' := by
  obtain ⟨⟨h1, h2⟩, h3, h4⟩ := h
  refine ⟨⟨h1, ?_⟩, Nat.le_trans h3 hb.size, h4.trans (hb.mono h3)⟩
  rcases h2 with h2 | ⟨g, cap, cur, e, hB, hg, r⟩
  · exact .inl h2
  · refine .inr ⟨g, cap, cur, e, hB, ?_, r⟩
    obtain ⟨hlt, _⟩ := Array.getElem?_eq_some_iff.1 hg
    exact (hb.block g hlt).trans hg
theorem OneT.push {w : World} {B : Nat} {v : Value} {L : List RTm} {wr w' : World} {g cp : Nat} {t : RTm} (h : OneT w B v L wr)
    (ho : w'.ownsRow B 37 3 (.slice (some ⟨g, 0, none⟩) (L.length + 1) cp) (L.length + 1) (tmCells L ++ [.int .i64 t.fd, .int .i64 t.op, .int .i64 t.nu])) (hg : wr.grownBy w' v.ownBlock) : OneT w B (.slice (some ⟨g, 0, none⟩) (L.length + 1) cp) (L ++ [t]) w' := by
  obtain ⟨h1, h4, h5⟩ := h
  refine ⟨?_, Nat.le_trans h4 hg.size, h5.grown hg h4 (fun q hq => (h1.lt q hq).1)⟩
  rw [List.length_append, tmCells_append]
  exact ho
theorem OneT.form {w : World} {B : Nat} {v : Value} {L : List RTm} {wr : World} (h : OneT w B v L wr) : ∃ g cp, v = .slice g L.length cp := by
  rcases h.1.2 with ⟨rfl, h0⟩ | ⟨g, cap, cur, rfl, _⟩
  · exact ⟨none, 0, by rw [h0]⟩
  · exact ⟨_, _, rfl⟩
theorem OneT.reads {w : World} {B : Nat} {a : Option Addr} {n cp : Nat} {L : List RTm} {wr : World} (h : OneT w B (.slice a n cp) L wr) (hn : n = L.length) : ReadsTm wr.heap.size wr a L := by
  subst hn
  by_cases h0 : L.length = 0
  · exact .inl (List.eq_nil_of_length_eq_zero h0)
  · obtain ⟨g', cap, he, hB, hlt⟩ := h.1.form (by omega)
    simp at he
    obtain ⟨rfl, rfl⟩ := he
    exact ownReadsTm h.1
end Go.Proofs.Ytfofdeenpcbglaa
