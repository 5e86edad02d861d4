/-
  The specification's reader in memory: the list, the segment under way in a block of its own, its parts.
-/
import Derived.Test.YtjnlghngneonhaaScR
namespace Go.Proofs.Ytjnlghngneonhaa
open Go.ChangeShapes Go.WideShapes Go.ChangeAt Go.RowKit Go.Joins Go.Deep
set_option linter.unusedVariables false

/-- The list so far. -/
structure SpR (B : Nat) (E : List SgE) (la : Option Addr) (lk : Nat) (W : World) : Prop where
  rowL : W.ownsRow B 43 2 (.slice la E.length lk) E.length (sgV E)
  old : ∀ e ∈ E, W.ownsRow B 9 1 e.row e.c.ps.length (strV e.c.ps)
  dst : E.Pairwise fun e e' => ∀ q, e.row.ownBlock = some q → e'.row.ownBlock ≠ some q
  low : B ≤ W.heap.size
/-- And the segment under way. -/
structure SpG (B gb pb : Nat) (E : List SgE) (la : Option Addr) (lk : Nat) (tg : ByteArray) (ps : List ByteArray) (pa : Option Addr) (pk : Nat) (W : World) : Prop where
  base : SpR B E la lk W
  box : W.heap[gb]? = some (.cells #[.string tg, .slice pa ps.length pk] 43 (0, 0))
  rowP : W.ownsRow pb 9 1 (.slice pa ps.length pk) ps.length (strV ps)
  frz : ∀ e ∈ E, ∀ q, e.row.ownBlock = some q → q < pb
  off : ∀ q, (Value.slice la E.length lk).ownBlock = some q → q ≠ gb
  ge : B ≤ gb ∧ B ≤ pb ∧ pb ≤ W.heap.size
section
variable {B gb pb : Nat} {E : List SgE} {la : Option Addr} {lk : Nat} {tg : ByteArray} {ps : List ByteArray} {pa : Option Addr} {pk : Nat} {W W' : World}
theorem SpR.later (h : SpR B E la lk W) (hb : Below W.heap.size W W') : SpR B E la lk W' :=
  ⟨row_of h.rowL (fun q hq => hb.block q (row_lt h.rowL q hq).2), fun e he => row_of (h.old e he) (fun q hq => hb.block q (row_lt (h.old e he) q hq).2), h.dst, Nat.le_trans h.low hb.size⟩
theorem SpG.later (h : SpG B gb pb E la lk tg ps pa pk W) (hb : Below W.heap.size W W') : SpG B gb pb E la lk tg ps pa pk W' :=
  ⟨h.base.later hb, (hb.block gb (blkLt h.box)).trans h.box, row_of h.rowP (fun q hq => hb.block q (row_lt h.rowP q hq).2), h.frz, h.off, ⟨h.ge.1, h.ge.2.1, Nat.le_trans h.ge.2.2 hb.size⟩⟩
theorem SpG.cells (h : SpG B gb pb E la lk tg ps pa pk W) : W.cell? ⟨gb, 0, none⟩ = some (.string tg) ∧ W.cell? ⟨gb, 1, none⟩ = some (.slice pa ps.length pk) ∧ ∀ j, W.frozen? ⟨gb, j, none⟩ = false :=
  ⟨blkCell h.box 0 _ rfl, blkCell h.box 1 _ rfl, fun j => blkFree h.box j⟩
/-- A segment begins. -/
theorem SpR.start (h : SpR B E la lk W) (tg : ByteArray) : SpG B W.heap.size W.heap.size E la lk tg [] none 0 (W.alloc (Obj.cells #[.string tg, .slice none 0 0] 43)) :=
  ⟨h.later (below_alloc _ _), heapNew W _, row_nil _ _ _ _, fun e he q hq => (row_lt (h.old e he) q hq).2, fun q hq => Nat.ne_of_lt (row_lt h.rowL q hq).2, ⟨h.low, h.low, by simp⟩⟩
/-- A part is appended: the row first, then the segment's cell. -/
theorem SpG.pushP {g1 c1 : Nat} {x : ByteArray} (h : SpG B gb pb E la lk tg ps pa pk W) (hr : W'.ownsRow pb 9 1 (.slice (some ⟨g1, 0, none⟩) (ps.length + 1) c1) (ps.length + 1) (strV ps ++ [.string x])) (hg : W.grownBy W' (Value.ownBlock (.slice pa ps.length pk))) :
    SpG B gb pb E la lk tg (ps ++ [x]) (some ⟨g1, 0, none⟩) c1 (W'.setCell ⟨gb, 1, none⟩ (.slice (some ⟨g1, 0, none⟩) (ps.length + 1) c1)) ∧ Below B W (W'.setCell ⟨gb, 1, none⟩ (.slice (some ⟨g1, 0, none⟩) (ps.length + 1) c1)) := by
  have hbl0 : Below B W W' := (Below.refl B W).grown hg h.base.low (fun q hq => by have := (row_lt h.rowP q hq).1; have := h.ge; omega)
  have n2 : ∀ q, (Value.slice pa ps.length pk).ownBlock = some q → q ≠ gb := fun q hq => offBox h.box h.rowP (by decide) hq
  have e0 : W'.heap[gb]? = W.heap[gb]? := hg.block gb (blkLt h.box) (fun e => n2 gb e.symm rfl)
  have b1 := heap_setCell_same W' gb 1 _ _ (.slice (some ⟨g1, 0, none⟩) (ps.length + 1) c1) (e0.trans h.box)
  have hk : ∀ k, k ≠ gb → (W'.setCell ⟨gb, 1, none⟩ (.slice (some ⟨g1, 0, none⟩) (ps.length + 1) c1)).heap[k]? = W'.heap[k]? := fun k hk => Below.heap_setCell W' ⟨gb, 1, none⟩ _ k hk
  have hle : (ps ++ [x]).length = ps.length + 1 := by simp
  have hm : strV (ps ++ [x]) = strV ps ++ [.string x] := by unfold strV; rw [List.map_append]; rfl
  refine ⟨⟨⟨row_of (grownOff hg h.base.rowL (fun q hq e => offRow h.base.rowL h.rowP (by decide) hq e rfl)) (fun q hq => hk q (h.off q hq)), fun e he => row_of (grownOff hg (h.base.old e he) (fun q hq e0 => ?_)) (fun q hq => hk q (offBox h.box (h.base.old e he) (by decide) hq)), h.base.dst, by rw [World.size_setCell]; exact Nat.le_trans h.base.low hg.size⟩, ?_, ?_, h.frz, h.off, ⟨h.ge.1, h.ge.2.1, by rw [World.size_setCell]; exact Nat.le_trans h.ge.2.2 hg.size⟩⟩, hbl0.setCell (p := ⟨gb, 1, none⟩) h.ge.1 _⟩
  · have := h.frz e he q hq
    have := (row_lt h.rowP q e0).1
    omega
  · rw [hle]; exact b1
  · rw [hle, hm]; exact row_of hr (fun q hq => hk q (offBox (e0.trans h.box) hr (by decide) hq))
/-- The segment goes to the list. -/
theorem SpG.pushL {g1 c1 : Nat} (h : SpG B gb pb E la lk tg ps pa pk W) (hr : W'.ownsRow B 43 2 (.slice (some ⟨g1, 0, none⟩) (E.length + 1) c1) (E.length + 1) (sgV E ++ [.string tg, .slice pa ps.length pk])) (hg : W.grownBy W' (Value.ownBlock (.slice la E.length lk))) :
    SpR B (E ++ [⟨⟨tg, ps⟩, pa, pk⟩]) (some ⟨g1, 0, none⟩) c1 W' ∧ Below B W W' := by
  have hbl0 : Below B W W' := (Below.refl B W).grown hg h.base.low (fun q hq => (row_lt h.base.rowL q hq).1)
  have hle : (E ++ [(⟨⟨tg, ps⟩, pa, pk⟩ : SgE)]).length = E.length + 1 := by simp
  have rp := grownOff hg h.rowP (fun q hq e => offRow h.rowP h.base.rowL (by decide) hq e rfl)
  refine ⟨⟨by rw [hle, sgV_push]; exact hr, fun e he => ?_, ?_, Nat.le_trans h.base.low hg.size⟩, hbl0⟩
  · rcases List.mem_append.1 he with he | he
    · exact grownOff hg (h.base.old e he) (fun q hq e0 => offRow (h.base.old e he) h.base.rowL (by decide) hq e0 rfl)
    · rw [List.mem_singleton] at he
      subst he
      exact row_base rp h.ge.2.1
  · rw [List.pairwise_append]
    refine ⟨h.base.dst, List.pairwise_singleton _ _, fun e he e' he' q hq hq' => ?_⟩
    rw [List.mem_singleton] at he'
    subst he'
    have := h.frz e he q hq
    have := (row_lt h.rowP q hq').1
    omega
end
/-- A fault: the empty list that stands ready is told. -/
theorem AnsRd.err {w W : World} {g : Nat} {c x : Int} {p : Nat} (hx : x = (p : Int)) (hg : w.heap.size ≤ g) (hb : W.heap[g]? = some (.cells #[] 43 (0, 0))) (hB : Below w.heap.size w W) : AnsRd w (c, p, []) (.returned (.tuple #[.slice (some ⟨g, 0, none⟩) 0 0, .int .i64 c, .int .i64 x])) W :=
  ⟨[], some ⟨g, 0, none⟩, 0, by rw [hx]; rfl, rfl, ⟨rfl, .inr ⟨g, 0, #[], rfl, hg, hb, Nat.le_refl _, by unfold maxLen; omega, rfl, rfl⟩⟩, fun e he => (by cases he), List.Pairwise.nil, hB⟩
theorem AnsRd.fine {w W : World} {E : List SgE} {la : Option Addr} {lk : Nat} (h : SpR w.heap.size E la lk W) (hB : Below w.heap.size w W) : AnsRd w (0, 0, E.map (·.c)) (.returned (.tuple #[.slice la E.length lk, .int .i64 0, .int .i64 0])) W :=
  ⟨E, la, lk, rfl, rfl, h.rowL, h.old, h.dst, hB⟩
/-- A step that ends, and one that goes on. -/
theorem rd_err {t : ByteArray} {s : RdS} {r : Int × Nat × List CSg} {fin : Int × Nat × List CSg} (hs : rdStep t s = .inl r) (hf : rdEnd t s = fin) : fin = r := by rw [← hf]; exact rdEnd_inl hs
theorem rd_go {t : ByteArray} {s s' : RdS} {fin : Int × Nat × List CSg} (hp : s.pl ≤ t.size) (hs : rdStep t s = .inr s') (hf : rdEnd t s = fin) : rdEnd t s' = fin := by rw [← rdEnd_inr hp hs]; exact hf
/-- Three ways in which no letter stands there. -/
theorem let_ways (t : ByteArray) (i : Nat) : (letAt t i = true ∧ i < t.size ∧ 65 ≤ (byL t).getD i 0 ∧ (byL t).getD i 0 ≤ 90) ∨ (letAt t i = false ∧ ¬ i < t.size) ∨ (letAt t i = false ∧ i < t.size ∧ (byL t).getD i 0 < 65) ∨ (letAt t i = false ∧ i < t.size ∧ 65 ≤ (byL t).getD i 0 ∧ 90 < (byL t).getD i 0) := by
  unfold letAt letB
  by_cases h : i < t.size
  · rcases in_ways ((byL t).getD i 0) 65 90 with h1 | ⟨h1, h2⟩ | ⟨h1, h2⟩
    · exact .inr (.inr (.inl ⟨by rw [decide_eq_true h, decide_eq_false (by omega)]; rfl, h, h1⟩))
    · exact .inr (.inr (.inr ⟨by rw [decide_eq_true h, decide_eq_false (by omega)]; rfl, h, h1, h2⟩))
    · exact .inl ⟨by rw [decide_eq_true h, decide_eq_true ⟨h1, h2⟩]; rfl, h, h1, h2⟩
  · exact .inr (.inl ⟨by rw [decide_eq_false h]; rfl, h⟩)
end Go.Proofs.Ytjnlghngneonhaa
