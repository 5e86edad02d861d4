/-
  The specification's sorter in memory: the log's box, the belt, what is within the lanes.
-/
import Derived.Test.YthmhpgbkapjjkaaSrF
import Derived.Test.YthmhpgbkapjjkaaAppAny
namespace Go.Proofs.Ythmhpgbkapjjkaa
open Go.ChangeShapes Go.WideShapes Go.ChangeAt Go.RowKit Go.Joins Go.Deep
set_option linter.unusedVariables false

def bbC (bl : List (Nat × Nat)) : List Value := bl.flatMap fun p => [.int .i64 (p.1 : Int), .int .i64 (p.2 : Int)]
theorem bbC_append (a b : List (Nat × Nat)) : bbC (a ++ b) = bbC a ++ bbC b := by simp [bbC]
theorem bbC_len : ∀ bl : List (Nat × Nat), (bbC bl).length = bl.length * 2
  | [] => rfl
  | p :: bl => by
    show (([.int .i64 (p.1 : Int), .int .i64 (p.2 : Int)] : List Value) ++ bbC bl).length = (bl.length + 1) * 2
    rw [List.length_append, bbC_len bl]; simp; omega
theorem bbC_one : ∀ (bl : List (Nat × Nat)) u, u ∈ bbC bl → u.oneCell' = true := by
  intro bl u hu
  unfold bbC at hu
  rw [List.mem_flatMap] at hu
  obtain ⟨p, _, h⟩ := hu
  simp at h
  rcases h with rfl | rfl <;> rfl
theorem bbInf : (Try.prog.info? 99).map (fun i => (i.zero, i.size, i.bytes)) = some (some (.agg #[.int .i64 0, .int .i64 0]), 2, 16) := by kernel_rfl
/-- The specification's sorter. -/
structure SpI (B lb : Nat) (W0 : World) (bv fv : Value) (belt : List (Nat × Nat)) (full out rej : List Int) (tk rc : Int) (qo : Option Addr) (co : Nat) (qr : Option Addr) (cr : Nat) (W : World) : Prop where
  box : W.heap[lb]? = some (.cells #[.int .i64 tk, .int .i64 rc, .slice qo out.length co, .slice qr rej.length cr] 41 (0, 0))
  rowB : W.ownsRow B 99 2 bv belt.length (bbC belt)
  rowF : W.ownsRow B 3 1 fv full.length (inV full)
  rowO : W.ownsRow B 3 1 (.slice qo out.length co) out.length (inV out)
  rowR : W.ownsRow B 3 1 (.slice qr rej.length cr) rej.length (inV rej)
  fo : ∀ q, fv.ownBlock = some q → (Value.slice qo out.length co).ownBlock ≠ some q ∧ (Value.slice qr rej.length cr).ownBlock ≠ some q
  or : ∀ q, (Value.slice qo out.length co).ownBlock = some q → (Value.slice qr rej.length cr).ownBlock ≠ some q
  ge : B ≤ lb
  low : Below B W0 W
section
variable {B lb : Nat} {W0 : World} {bv fv : Value} {belt : List (Nat × Nat)} {full out rej : List Int} {tk rc : Int} {qo : Option Addr} {co : Nat} {qr : Option Addr} {cr : Nat} {W W' : World}
theorem SpI.bsz (h : SpI B lb W0 bv fv belt full out rej tk rc qo co qr cr W) : B ≤ W.heap.size := by have := blkLt h.box; have := h.ge; omega
theorem SpI.nb (h : SpI B lb W0 bv fv belt full out rej tk rc qo co qr cr W) : (∀ q, bv.ownBlock = some q → q ≠ lb ∧ fv.ownBlock ≠ some q ∧ (Value.slice qo out.length co).ownBlock ≠ some q ∧ (Value.slice qr rej.length cr).ownBlock ≠ some q) ∧ (∀ q, fv.ownBlock = some q → q ≠ lb) ∧ (∀ q, (Value.slice qo out.length co).ownBlock = some q → q ≠ lb) ∧ ∀ q, (Value.slice qr rej.length cr).ownBlock = some q → q ≠ lb := by
  have hb := h.box
  refine ⟨fun q hq => ?_, fun q hq e => ?_, fun q hq e => ?_, fun q hq e => ?_⟩
  · obtain ⟨c1, h1⟩ := row_type h.rowB hq
    refine ⟨fun e => ?_, fun e => ?_, fun e => ?_, fun e => ?_⟩
    · rw [e, hb] at h1; simp at h1
    · obtain ⟨c2, h2⟩ := row_type h.rowF e; rw [h1] at h2; simp at h2
    · obtain ⟨c2, h2⟩ := row_type h.rowO e; rw [h1] at h2; simp at h2
    · obtain ⟨c2, h2⟩ := row_type h.rowR e; rw [h1] at h2; simp at h2
  · obtain ⟨c1, h1⟩ := row_type h.rowF hq; rw [e, hb] at h1; simp at h1
  · obtain ⟨c1, h1⟩ := row_type h.rowO hq; rw [e, hb] at h1; simp at h1
  · obtain ⟨c1, h1⟩ := row_type h.rowR hq; rw [e, hb] at h1; simp at h1
theorem SpI.later (h : SpI B lb W0 bv fv belt full out rej tk rc qo co qr cr W) (hb : Below W.heap.size W W') : SpI B lb W0 bv fv belt full out rej tk rc qo co qr cr W' :=
  ⟨(hb.block lb (blkLt h.box)).trans h.box, row_of h.rowB (fun q hq => hb.block q (row_lt h.rowB q hq).2), row_of h.rowF (fun q hq => hb.block q (row_lt h.rowF q hq).2), row_of h.rowO (fun q hq => hb.block q (row_lt h.rowO q hq).2), row_of h.rowR (fun q hq => hb.block q (row_lt h.rowR q hq).2), h.fo, h.or, h.ge, h.low.trans (hb.mono h.bsz)⟩
/-- In the log's box one cell turns. -/
theorem SpI.put (h : SpI B lb W0 bv fv belt full out rej tk rc qo co qr cr W) (j : Nat) (v : Value) : (W.setCell ⟨lb, j, none⟩ v).heap[lb]? = some (.cells ((#[.int .i64 tk, .int .i64 rc, .slice qo out.length co, .slice qr rej.length cr] : Array Value).setIfInBounds j v) 41 (0, 0)) ∧ (∀ k, k ≠ lb → (W.setCell ⟨lb, j, none⟩ v).heap[k]? = W.heap[k]?) ∧ Below B W0 (W.setCell ⟨lb, j, none⟩ v) :=
  ⟨heap_setCell_same W lb j _ _ v h.box, fun k hk => Below.heap_setCell W ⟨lb, j, none⟩ _ k hk, h.low.setCell (p := ⟨lb, j, none⟩) h.ge _⟩
theorem SpI.setTk (h : SpI B lb W0 bv fv belt full out rej tk rc qo co qr cr W) (x : Int) : SpI B lb W0 bv fv belt full out rej x rc qo co qr cr (W.setCell ⟨lb, 0, none⟩ (.int .i64 x)) := by
  obtain ⟨e1, hk, hbl⟩ := h.put 0 (.int .i64 x)
  obtain ⟨n1, n2, n3, n4⟩ := h.nb
  exact ⟨e1, row_of h.rowB (fun q hq => hk q (n1 q hq).1), row_of h.rowF (fun q hq => hk q (n2 q hq)), row_of h.rowO (fun q hq => hk q (n3 q hq)), row_of h.rowR (fun q hq => hk q (n4 q hq)), h.fo, h.or, h.ge, hbl⟩
theorem SpI.setRc (h : SpI B lb W0 bv fv belt full out rej tk rc qo co qr cr W) (x : Int) : SpI B lb W0 bv fv belt full out rej tk x qo co qr cr (W.setCell ⟨lb, 1, none⟩ (.int .i64 x)) := by
  obtain ⟨e1, hk, hbl⟩ := h.put 1 (.int .i64 x)
  obtain ⟨n1, n2, n3, n4⟩ := h.nb
  exact ⟨e1, row_of h.rowB (fun q hq => hk q (n1 q hq).1), row_of h.rowF (fun q hq => hk q (n2 q hq)), row_of h.rowO (fun q hq => hk q (n3 q hq)), row_of h.rowR (fun q hq => hk q (n4 q hq)), h.fo, h.or, h.ge, hbl⟩
theorem SpI.setF {wb n wc : Nat} (h : SpI B lb W0 bv (.slice (some ⟨wb, 0, none⟩) n wc) belt full out rej tk rc qo co qr cr W) {j : Nat} (hj : j < full.length) (x : Int) : SpI B lb W0 bv (.slice (some ⟨wb, 0, none⟩) n wc) belt (full.set j x) out rej tk rc qo co qr cr (W.setCell ⟨wb, j, none⟩ (.int .i64 x)) := by
  obtain ⟨n1, n2, n3, n4⟩ := h.nb
  have hk : ∀ k, k ≠ wb → (W.setCell ⟨wb, j, none⟩ (.int .i64 x)).heap[k]? = W.heap[k]? := fun k hk => Below.heap_setCell W ⟨wb, j, none⟩ _ k hk
  have hw := row_lt h.rowF wb rfl
  exact ⟨(hk lb (Ne.symm (n2 wb rfl))).trans h.box, row_of h.rowB (fun q hq => hk q (fun e => (n1 q hq).2.1 (by rw [e]; rfl))), rowPut h.rowF j hj x, row_of h.rowO (fun q hq => hk q (fun e => (h.fo wb rfl).1 (by rw [← e]; exact hq))), row_of h.rowR (fun q hq => hk q (fun e => (h.fo wb rfl).2 (by rw [← e]; exact hq))), h.fo, h.or, h.ge, h.low.setCell (p := ⟨wb, j, none⟩) hw.1 _⟩
theorem SpI.setO {ob : Nat} (h : SpI B lb W0 bv fv belt full out rej tk rc (some ⟨ob, 0, none⟩) co qr cr W) {j : Nat} (hj : j < out.length) (x : Int) : SpI B lb W0 bv fv belt full (out.set j x) rej tk rc (some ⟨ob, 0, none⟩) co qr cr (W.setCell ⟨ob, j, none⟩ (.int .i64 x)) := by
  obtain ⟨n1, n2, n3, n4⟩ := h.nb
  have hk : ∀ k, k ≠ ob → (W.setCell ⟨ob, j, none⟩ (.int .i64 x)).heap[k]? = W.heap[k]? := fun k hk => Below.heap_setCell W ⟨ob, j, none⟩ _ k hk
  have hw := row_lt h.rowO ob rfl
  have hl : (out.set j x).length = out.length := List.length_set
  have hp := rowPut h.rowO j hj x
  refine ⟨?_, row_of h.rowB (fun q hq => hk q (fun e => (n1 q hq).2.2.1 (by rw [e]; rfl))), row_of h.rowF (fun q hq => hk q (fun e => (h.fo q hq).1 (by rw [e]; rfl))), ?_, row_of h.rowR (fun q hq => hk q (fun e => h.or ob rfl (by rw [← e]; exact hq))), ?_, ?_, h.ge, h.low.setCell (p := ⟨ob, j, none⟩) hw.1 _⟩
  · rw [hl]; exact (hk lb (Ne.symm (n3 ob rfl))).trans h.box
  · rw [hl] at hp ⊢; exact hp
  · rw [hl]; exact h.fo
  · rw [hl]; exact h.or
/-- One is appended to those who were rejected. -/
theorem SpI.pushR {g1 c1 : Nat} {x : Int} (h : SpI B lb W0 bv fv belt full out rej tk rc qo co qr cr W) (hr : W'.ownsRow B 3 1 (.slice (some ⟨g1, 0, none⟩) (rej.length + 1) c1) (rej.length + 1) (inV (rej ++ [x]))) (hg : W.grownBy W' (Value.ownBlock (.slice qr rej.length cr))) (hn : (qr = some ⟨g1, 0, none⟩ ∧ c1 = cr) ∨ W.heap.size ≤ g1) :
    SpI B lb W0 bv fv belt full out (rej ++ [x]) tk rc qo co (some ⟨g1, 0, none⟩) c1 (W'.setCell ⟨lb, 3, none⟩ (.slice (some ⟨g1, 0, none⟩) (rej.length + 1) c1)) := by
  obtain ⟨n1, n2, n3, n4⟩ := h.nb
  have hz : ∀ q, (Value.slice qr rej.length cr).ownBlock = some q → B ≤ q := fun q hq => (row_lt h.rowR q hq).1
  have hbl0 : Below B W0 W' := h.low.grown hg h.bsz hz
  have e0 : W'.heap[lb]? = W.heap[lb]? := hg.block lb (blkLt h.box) (fun e => n4 lb e.symm rfl)
  have hb : ∀ q, q < W.heap.size → (Value.slice qr rej.length cr).ownBlock ≠ some q → W'.heap[q]? = W.heap[q]? := fun q hq hne => hg.block q hq (fun e => hne e.symm)
  have b1 := heap_setCell_same W' lb 3 _ _ (.slice (some ⟨g1, 0, none⟩) (rej.length + 1) c1) (e0.trans h.box)
  have hk : ∀ k, k ≠ lb → (W'.setCell ⟨lb, 3, none⟩ (.slice (some ⟨g1, 0, none⟩) (rej.length + 1) c1)).heap[k]? = W'.heap[k]? := fun k hk => Below.heap_setCell W' ⟨lb, 3, none⟩ _ k hk
  have hle : (rej ++ [x]).length = rej.length + 1 := by simp
  have hng : ∀ q, q < W.heap.size → (Value.slice qr rej.length cr).ownBlock ≠ some q → g1 ≠ q := fun q hq hne e => by
    rcases hn with ⟨e2, _⟩ | h2
    · exact hne (by rw [e2, e]; rfl)
    · omega
  refine ⟨?_, row_of h.rowB (fun q hq => (hk q (n1 q hq).1).trans (hb q (row_lt h.rowB q hq).2 (n1 q hq).2.2.2)), row_of h.rowF (fun q hq => (hk q (n2 q hq)).trans (hb q (row_lt h.rowF q hq).2 (h.fo q hq).2)), row_of h.rowO (fun q hq => (hk q (n3 q hq)).trans (hb q (row_lt h.rowO q hq).2 (h.or q hq))), ?_, fun q hq => ⟨(h.fo q hq).1, fun e => ?_⟩, fun q hq e => ?_, h.ge, hbl0.setCell (p := ⟨lb, 3, none⟩) h.ge _⟩
  · rw [hle]; exact b1
  · rw [hle]
    refine row_of hr (fun q hq => hk q (fun e => ?_))
    have e2 : g1 = q := by simpa [Value.ownBlock] using hq
    rw [e] at e2
    exact hng lb (blkLt h.box) (fun e3 => n4 lb e3 rfl) e2
  · have e2 : g1 = q := by simpa [Value.ownBlock] using e
    exact hng q (row_lt h.rowF q hq).2 (h.fo q hq).2 e2
  · have e2 : g1 = q := by simpa [Value.ownBlock] using e
    exact hng q (row_lt h.rowO q hq).2 (h.or q hq) e2
/-- One is appended to where each went. -/
theorem SpI.pushO {g1 c1 : Nat} {x : Int} (h : SpI B lb W0 bv fv belt full out rej tk rc qo co qr cr W) (hr : W'.ownsRow B 3 1 (.slice (some ⟨g1, 0, none⟩) (out.length + 1) c1) (out.length + 1) (inV (out ++ [x]))) (hg : W.grownBy W' (Value.ownBlock (.slice qo out.length co))) (hn : (qo = some ⟨g1, 0, none⟩ ∧ c1 = co) ∨ W.heap.size ≤ g1) :
    SpI B lb W0 bv fv belt full (out ++ [x]) rej tk rc (some ⟨g1, 0, none⟩) c1 qr cr (W'.setCell ⟨lb, 2, none⟩ (.slice (some ⟨g1, 0, none⟩) (out.length + 1) c1)) := by
  obtain ⟨n1, n2, n3, n4⟩ := h.nb
  have hz : ∀ q, (Value.slice qo out.length co).ownBlock = some q → B ≤ q := fun q hq => (row_lt h.rowO q hq).1
  have hbl0 : Below B W0 W' := h.low.grown hg h.bsz hz
  have e0 : W'.heap[lb]? = W.heap[lb]? := hg.block lb (blkLt h.box) (fun e => n3 lb e.symm rfl)
  have hb : ∀ q, q < W.heap.size → (Value.slice qo out.length co).ownBlock ≠ some q → W'.heap[q]? = W.heap[q]? := fun q hq hne => hg.block q hq (fun e => hne e.symm)
  have b1 := heap_setCell_same W' lb 2 _ _ (.slice (some ⟨g1, 0, none⟩) (out.length + 1) c1) (e0.trans h.box)
  have hk : ∀ k, k ≠ lb → (W'.setCell ⟨lb, 2, none⟩ (.slice (some ⟨g1, 0, none⟩) (out.length + 1) c1)).heap[k]? = W'.heap[k]? := fun k hk => Below.heap_setCell W' ⟨lb, 2, none⟩ _ k hk
  have hle : (out ++ [x]).length = out.length + 1 := by simp
  have hng : ∀ q, q < W.heap.size → (Value.slice qo out.length co).ownBlock ≠ some q → g1 ≠ q := fun q hq hne e => by
    rcases hn with ⟨e2, _⟩ | h2
    · exact hne (by rw [e2, e]; rfl)
    · omega
  have hor : ∀ q, (Value.slice qr rej.length cr).ownBlock = some q → (Value.slice qo out.length co).ownBlock ≠ some q := fun q hq e => h.or q e hq
  refine ⟨?_, row_of h.rowB (fun q hq => (hk q (n1 q hq).1).trans (hb q (row_lt h.rowB q hq).2 (n1 q hq).2.2.1)), row_of h.rowF (fun q hq => (hk q (n2 q hq)).trans (hb q (row_lt h.rowF q hq).2 (h.fo q hq).1)), ?_, row_of h.rowR (fun q hq => (hk q (n4 q hq)).trans (hb q (row_lt h.rowR q hq).2 (hor q hq))), fun q hq => ⟨fun e => ?_, (h.fo q hq).2⟩, fun q hq e => ?_, h.ge, hbl0.setCell (p := ⟨lb, 2, none⟩) h.ge _⟩
  · rw [hle]; exact b1
  · rw [hle]
    refine row_of hr (fun q hq => hk q (fun e => ?_))
    have e2 : g1 = q := by simpa [Value.ownBlock] using hq
    rw [e] at e2
    exact hng lb (blkLt h.box) (fun e3 => n3 lb e3 rfl) e2
  · have e2 : g1 = q := by simpa [Value.ownBlock] using e
    exact hng q (row_lt h.rowF q hq).2 (h.fo q hq).1 e2
  · have e2 : g1 = q := by simpa [Value.ownBlock] using hq
    exact hng q (row_lt h.rowR q e).2 (hor q e) e2
/-- The belt is another row: what was written is its own block, or new. -/
theorem SpI.belt2 {bv2 : Value} {belt2 : List (Nat × Nat)} (h : SpI B lb W0 bv fv belt full out rej tk rc qo co qr cr W) (hr : W'.ownsRow B 99 2 bv2 belt2.length (bbC belt2)) (hg : W.grownBy W' bv.ownBlock) : SpI B lb W0 bv2 fv belt2 full out rej tk rc qo co qr cr W' := by
  obtain ⟨n1, n2, n3, n4⟩ := h.nb
  have hb : ∀ q, q < W.heap.size → bv.ownBlock ≠ some q → W'.heap[q]? = W.heap[q]? := fun q hq hne => hg.block q hq (fun e => hne e.symm)
  exact ⟨(hb lb (blkLt h.box) (fun e => (n1 lb e).1 rfl)).trans h.box, hr, row_of h.rowF (fun q hq => hb q (row_lt h.rowF q hq).2 (fun e => (n1 q e).2.1 hq)), row_of h.rowO (fun q hq => hb q (row_lt h.rowO q hq).2 (fun e => (n1 q e).2.2.1 hq)), row_of h.rowR (fun q hq => hb q (row_lt h.rowR q hq).2 (fun e => (n1 q e).2.2.2 hq)), h.fo, h.or, h.ge, h.low.grown hg h.bsz (fun q hq => (row_lt h.rowB q hq).1)⟩
/-- Another belt, nothing else written. -/
theorem SpI.belt3 {bv2 : Value} {belt2 : List (Nat × Nat)} (h : SpI B lb W0 bv fv belt full out rej tk rc qo co qr cr W) (hr : W.ownsRow B 99 2 bv2 belt2.length (bbC belt2)) : SpI B lb W0 bv2 fv belt2 full out rej tk rc qo co qr cr W := ⟨h.box, hr, h.rowF, h.rowO, h.rowR, h.fo, h.or, h.ge, h.low⟩
theorem SpI.cells (h : SpI B lb W0 bv fv belt full out rej tk rc qo co qr cr W) : (W.cell? ⟨lb, 0, none⟩ = some (.int .i64 tk) ∧ W.cell? ⟨lb, 1, none⟩ = some (.int .i64 rc) ∧ W.cell? ⟨lb, 2, none⟩ = some (.slice qo out.length co) ∧ W.cell? ⟨lb, 3, none⟩ = some (.slice qr rej.length cr)) ∧ ∀ j, W.frozen? ⟨lb, j, none⟩ = false :=
  ⟨⟨blkCell h.box 0 _ rfl, blkCell h.box 1 _ rfl, blkCell h.box 2 _ rfl, blkCell h.box 3 _ rfl⟩, fun j => blkFree h.box j⟩
end
end Go.Proofs.Ythmhpgbkapjjkaa
