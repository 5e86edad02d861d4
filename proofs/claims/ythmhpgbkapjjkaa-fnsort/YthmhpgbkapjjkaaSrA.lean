/-
  A sorter in memory: its block, what is within the lanes, where each went, who was rejected, the belt.
-/
import Derived.Test.YthmhpgbkapjjkaaSrM
import Derived.Test.YthmhpgbkapjjkaaBpV
import Derived.Test.YthmhpgbkapjjkaaRowG
import Derived.Test.YthmhpgbkapjjkaaLnR
namespace Go.Proofs.Ythmhpgbkapjjkaa
open Go.ChangeShapes Go.WideShapes Go.ChangeAt Go.RowKit Go.Joins Go.Deep Go.Conc
set_option linter.unusedVariables false

theorem rowPut {W : World} {B cg c n : Nat} {cs : List Int} (h : W.ownsRow B 3 1 (.slice (some ⟨cg, 0, none⟩) n c) cs.length (inV cs)) (j : Nat) (hj : j < cs.length) (x : Int) : (W.setCell ⟨cg, j, none⟩ (.int .i64 x)).ownsRow B 3 1 (.slice (some ⟨cg, 0, none⟩) n c) (cs.set j x).length (inV (cs.set j x)) := by
  obtain ⟨h1, h2⟩ := h
  rcases h2 with ⟨e, _⟩ | ⟨g, cap, cur, e, hB, hg, hc, hm, hs, ht⟩
  · simp at e
  · simp at e
    obtain ⟨rfl, rfl, rfl⟩ := e
    have e2 : inV (cs.set j x) = (inV cs).set j (.int .i64 x) := by unfold inV; rw [List.map_set]
    refine ⟨by rw [e2]; simpa using h1, .inr ⟨cg, c, cur.setIfInBounds j (.int .i64 x), by rw [List.length_set], hB, heap_setCell_same _ _ _ _ _ _ hg, by rw [List.length_set]; exact hc, hm, by simpa using hs, ?_⟩⟩
    rw [List.length_set, e2, Array.toList_setIfInBounds, List.take_set, ht]
theorem rowCell {W : World} {B cg c n : Nat} {cs : List Int} (h : W.ownsRow B 3 1 (.slice (some ⟨cg, 0, none⟩) n c) cs.length (inV cs)) {j : Nat} (hj : j < cs.length) : W.cell? ⟨cg, j, none⟩ = some (.int .i64 (cs.getD j 0)) ∧ W.frozen? ⟨cg, j, none⟩ = false := by
  have hl : n = cs.length := by
    rcases h.2 with ⟨e, _⟩ | ⟨g, cap, cur, e, _⟩
    · simp at e
    · simp at e; exact e.2.1
  obtain ⟨cur, hg⟩ := row_type h (q := cg) rfl
  refine ⟨?_, blkFree hg j⟩
  subst hl
  rw [h.cellAt j (by omega)]
  unfold inV
  rw [List.getElem?_map, List.getElem?_eq_getElem hj]
  simp [List.getD_eq_getElem?_getD, hj]
/-- The sorter. -/
structure SoI (B sb wb ob cb : Nat) (la : Option Addr) (lc : Nat) (ls : List RLa) (m wc oc : Nat) (buf : Array Value) (full out rej : List Int) (tk rc : Int) (rg : Option Addr) (rk : Nat) (W : World) : Prop where
  box : W.heap[sb]? = some (.cells #[.slice la ls.length lc, .slice (some ⟨wb, 0, none⟩) ls.length wc, .chan (some cb), .int .i64 tk, .int .i64 rc, .slice (some ⟨ob, 0, none⟩) m oc, .slice rg rej.length rk] 90 (0, 0))
  rowF : W.ownsRow B 3 1 (.slice (some ⟨wb, 0, none⟩) ls.length wc) full.length (inV full)
  rowO : W.ownsRow B 3 1 (.slice (some ⟨ob, 0, none⟩) m oc) out.length (inV out)
  rowR : W.ownsRow B 3 1 (.slice rg rej.length rk) rej.length (inV rej)
  chan : ∃ s r, W.heap[cb]? = some (.chan m buf false s r false)
  fl : full.length = ls.length
  ol : out.length = m
  wo : wb ≠ ob
  rr : ∀ q, (Value.slice rg rej.length rk).ownBlock = some q → q ≠ wb ∧ ob < q
  ge : B ≤ sb ∧ B ≤ cb
  lanes : ReadsLa B W la ls
section
variable {B sb wb ob cb : Nat} {la : Option Addr} {lc : Nat} {ls : List RLa} {m wc oc : Nat} {buf : Array Value} {full out rej : List Int} {tk rc : Int} {rg : Option Addr} {rk : Nat} {W W' : World}
abbrev SoT (B sb wb ob cb : Nat) (la : Option Addr) (lc : Nat) (ls : List RLa) (m wc oc : Nat) := SoI B sb wb ob cb la lc ls m wc oc
theorem SoI.lt (h : SoI B sb wb ob cb la lc ls m wc oc buf full out rej tk rc rg rk W) : sb < W.heap.size ∧ (B ≤ wb ∧ wb < W.heap.size) ∧ (B ≤ ob ∧ ob < W.heap.size) ∧ cb < W.heap.size := by
  obtain ⟨s, r, hc⟩ := h.chan
  refine ⟨blkLt h.box, h.rowF.lt wb rfl, h.rowO.lt ob rfl, ?_⟩
  rcases Nat.lt_or_ge cb W.heap.size with q | q
  · exact q
  · rw [Array.getElem?_eq_none q] at hc; cases hc
theorem SoI.ne (h : SoI B sb wb ob cb la lc ls m wc oc buf full out rej tk rc rg rk W) : (sb ≠ wb ∧ sb ≠ ob ∧ sb ≠ cb) ∧ (cb ≠ wb ∧ cb ≠ ob) ∧ ∀ q, (Value.slice rg rej.length rk).ownBlock = some q → q ≠ sb ∧ q ≠ cb := by
  obtain ⟨s, r, hc⟩ := h.chan
  obtain ⟨c1, h1⟩ := row_type h.rowF (q := wb) rfl
  obtain ⟨c2, h2⟩ := row_type h.rowO (q := ob) rfl
  have hb := h.box
  refine ⟨⟨fun e => ?_, fun e => ?_, fun e => ?_⟩, ⟨fun e => ?_, fun e => ?_⟩, fun q hq => ⟨fun e => ?_, fun e => ?_⟩⟩
  · rw [e, h1] at hb; simp at hb
  · rw [e, h2] at hb; simp at hb
  · rw [e, hc] at hb; cases hb
  · rw [e, h1] at hc; cases hc
  · rw [e, h2] at hc; cases hc
  · obtain ⟨c3, h3⟩ := row_type h.rowR hq
    rw [← e, h3] at hb; simp at hb
  · obtain ⟨c3, h3⟩ := row_type h.rowR hq
    rw [← e, h3] at hc; cases hc
theorem SoI.later (h : SoI B sb wb ob cb la lc ls m wc oc buf full out rej tk rc rg rk W) (hb : Below W.heap.size W W') : SoI B sb wb ob cb la lc ls m wc oc buf full out rej tk rc rg rk W' := by
  obtain ⟨l1, l2, l3, l4⟩ := h.lt
  obtain ⟨s, r, hc⟩ := h.chan
  exact ⟨(hb.block sb l1).trans h.box, row_of h.rowF (fun q hq => hb.block q (row_lt h.rowF q hq).2), row_of h.rowO (fun q hq => hb.block q (row_lt h.rowO q hq).2), row_of h.rowR (fun q hq => hb.block q (row_lt h.rowR q hq).2), ⟨s, r, (hb.block cb l4).trans hc⟩, h.fl, h.ol, h.wo, h.rr, h.ge, h.lanes.below (hb.mono (by have := h.ge; omega))⟩
theorem SoI.setF (h : SoI B sb wb ob cb la lc ls m wc oc buf full out rej tk rc rg rk W) {j : Nat} (hj : j < full.length) (x : Int) : SoI B sb wb ob cb la lc ls m wc oc buf (full.set j x) out rej tk rc rg rk (W.setCell ⟨wb, j, none⟩ (.int .i64 x)) ∧ Below B W (W.setCell ⟨wb, j, none⟩ (.int .i64 x)) := by
  obtain ⟨l1, l2, l3, l4⟩ := h.lt
  obtain ⟨⟨n1, n2, n3⟩, ⟨n4, n5⟩, n6⟩ := h.ne
  obtain ⟨s, r, hc⟩ := h.chan
  have hk : ∀ k, k ≠ wb → (W.setCell ⟨wb, j, none⟩ (.int .i64 x)).heap[k]? = W.heap[k]? := fun k hk => Below.heap_setCell W ⟨wb, j, none⟩ _ k hk
  have hbl : Below B W (W.setCell ⟨wb, j, none⟩ (.int .i64 x)) := (Below.refl _ _).setCell (p := ⟨wb, j, none⟩) l2.1 _
  exact ⟨⟨(hk sb n1).trans h.box, rowPut h.rowF j hj x, row_of h.rowO (fun q hq => by cases hq; exact hk _ (Ne.symm h.wo)), row_of h.rowR (fun q hq => hk q (h.rr q hq).1), ⟨s, r, (hk cb n4).trans hc⟩, by rw [List.length_set]; exact h.fl, h.ol, h.wo, h.rr, h.ge, h.lanes.below hbl⟩, hbl⟩
theorem SoI.setO (h : SoI B sb wb ob cb la lc ls m wc oc buf full out rej tk rc rg rk W) {j : Nat} (hj : j < out.length) (x : Int) : SoI B sb wb ob cb la lc ls m wc oc buf full (out.set j x) rej tk rc rg rk (W.setCell ⟨ob, j, none⟩ (.int .i64 x)) ∧ Below B W (W.setCell ⟨ob, j, none⟩ (.int .i64 x)) := by
  obtain ⟨l1, l2, l3, l4⟩ := h.lt
  obtain ⟨⟨n1, n2, n3⟩, ⟨n4, n5⟩, n6⟩ := h.ne
  obtain ⟨s, r, hc⟩ := h.chan
  have hk : ∀ k, k ≠ ob → (W.setCell ⟨ob, j, none⟩ (.int .i64 x)).heap[k]? = W.heap[k]? := fun k hk => Below.heap_setCell W ⟨ob, j, none⟩ _ k hk
  have hbl : Below B W (W.setCell ⟨ob, j, none⟩ (.int .i64 x)) := (Below.refl _ _).setCell (p := ⟨ob, j, none⟩) l3.1 _
  exact ⟨⟨(hk sb n2).trans h.box, row_of h.rowF (fun q hq => by cases hq; exact hk _ h.wo), rowPut h.rowO j hj x, row_of h.rowR (fun q hq => hk q (Nat.ne_of_gt (h.rr q hq).2)), ⟨s, r, (hk cb n5).trans hc⟩, h.fl, by rw [List.length_set]; exact h.ol, h.wo, h.rr, h.ge, h.lanes.below hbl⟩, hbl⟩
/-- In the sorter's block one cell turns. -/
theorem SoI.put (h : SoI B sb wb ob cb la lc ls m wc oc buf full out rej tk rc rg rk W) (j : Nat) (v : Value) : (W.setCell ⟨sb, j, none⟩ v).heap[sb]? = some (.cells ((#[.slice la ls.length lc, .slice (some ⟨wb, 0, none⟩) ls.length wc, .chan (some cb), .int .i64 tk, .int .i64 rc, .slice (some ⟨ob, 0, none⟩) m oc, .slice rg rej.length rk] : Array Value).setIfInBounds j v) 90 (0, 0)) ∧ (∀ k, k ≠ sb → (W.setCell ⟨sb, j, none⟩ v).heap[k]? = W.heap[k]?) ∧ Below B W (W.setCell ⟨sb, j, none⟩ v) :=
  ⟨heap_setCell_same W sb j _ _ v h.box, fun k hk => Below.heap_setCell W ⟨sb, j, none⟩ _ k hk, (Below.refl _ _).setCell (p := ⟨sb, j, none⟩) h.ge.1 _⟩
theorem SoI.setTk (h : SoI B sb wb ob cb la lc ls m wc oc buf full out rej tk rc rg rk W) (x : Int) : SoI B sb wb ob cb la lc ls m wc oc buf full out rej x rc rg rk (W.setCell ⟨sb, 3, none⟩ (.int .i64 x)) ∧ Below B W (W.setCell ⟨sb, 3, none⟩ (.int .i64 x)) := by
  obtain ⟨e1, hk, hbl⟩ := h.put 3 (.int .i64 x)
  obtain ⟨⟨n1, n2, n3⟩, ⟨n4, n5⟩, n6⟩ := h.ne
  obtain ⟨s, r, hc⟩ := h.chan
  exact ⟨⟨e1, row_of h.rowF (fun q hq => by cases hq; exact hk _ (Ne.symm n1)), row_of h.rowO (fun q hq => by cases hq; exact hk _ (Ne.symm n2)), row_of h.rowR (fun q hq => hk q (n6 q hq).1), ⟨s, r, (hk cb (Ne.symm n3)).trans hc⟩, h.fl, h.ol, h.wo, h.rr, h.ge, h.lanes.below hbl⟩, hbl⟩
theorem SoI.setRc (h : SoI B sb wb ob cb la lc ls m wc oc buf full out rej tk rc rg rk W) (x : Int) : SoI B sb wb ob cb la lc ls m wc oc buf full out rej tk x rg rk (W.setCell ⟨sb, 4, none⟩ (.int .i64 x)) ∧ Below B W (W.setCell ⟨sb, 4, none⟩ (.int .i64 x)) := by
  obtain ⟨e1, hk, hbl⟩ := h.put 4 (.int .i64 x)
  obtain ⟨⟨n1, n2, n3⟩, ⟨n4, n5⟩, n6⟩ := h.ne
  obtain ⟨s, r, hc⟩ := h.chan
  exact ⟨⟨e1, row_of h.rowF (fun q hq => by cases hq; exact hk _ (Ne.symm n1)), row_of h.rowO (fun q hq => by cases hq; exact hk _ (Ne.symm n2)), row_of h.rowR (fun q hq => hk q (n6 q hq).1), ⟨s, r, (hk cb (Ne.symm n3)).trans hc⟩, h.fl, h.ol, h.wo, h.rr, h.ge, h.lanes.below hbl⟩, hbl⟩
/-- One is appended to those who were rejected: the row first, then the sorter's cell. -/
theorem SoI.push {g1 c1 x : Nat} {x : Int} (h : SoI B sb wb ob cb la lc ls m wc oc buf full out rej tk rc rg rk W) (hr : W'.ownsRow B 3 1 (.slice (some ⟨g1, 0, none⟩) (rej.length + 1) c1) (rej.length + 1) (inV (rej ++ [x]))) (hg : W.grownBy W' (Value.ownBlock (.slice rg rej.length rk))) (hn : (rg = some ⟨g1, 0, none⟩ ∧ c1 = rk) ∨ W.heap.size ≤ g1) :
    SoI B sb wb ob cb la lc ls m wc oc buf full out (rej ++ [x]) tk rc (some ⟨g1, 0, none⟩) c1 (W'.setCell ⟨sb, 6, none⟩ (.slice (some ⟨g1, 0, none⟩) (rej.length + 1) c1)) ∧ Below B W (W'.setCell ⟨sb, 6, none⟩ (.slice (some ⟨g1, 0, none⟩) (rej.length + 1) c1)) := by
  obtain ⟨l1, l2, l3, l4⟩ := h.lt
  obtain ⟨⟨n1, n2, n3⟩, ⟨n4, n5⟩, n6⟩ := h.ne
  obtain ⟨s, r, hc⟩ := h.chan
  have hz : ∀ q, (Value.slice rg rej.length rk).ownBlock = some q → B ≤ q := fun q hq => (row_lt h.rowR q hq).1
  have hbl0 : Below B W W' := (Below.refl B W).grown hg (by have := h.ge; omega) hz
  have e0 : W'.heap[sb]? = W.heap[sb]? := hg.block sb l1 (fun e => (n6 sb e.symm).1 rfl)
  have e1 : W'.heap[wb]? = W.heap[wb]? := hg.block wb l2.2 (fun e => (h.rr wb e.symm).1 rfl)
  have e2 : W'.heap[ob]? = W.heap[ob]? := hg.block ob l3.2 (fun e => Nat.lt_irrefl _ (h.rr ob e.symm).2)
  have e3 : W'.heap[cb]? = W.heap[cb]? := hg.block cb l4 (fun e => (n6 cb e.symm).2 rfl)
  have b1 := heap_setCell_same W' sb 6 _ _ (.slice (some ⟨g1, 0, none⟩) (rej.length + 1) c1) (e0.trans h.box)
  have hk : ∀ k, k ≠ sb → (W'.setCell ⟨sb, 6, none⟩ (.slice (some ⟨g1, 0, none⟩) (rej.length + 1) c1)).heap[k]? = W'.heap[k]? := fun k hk => Below.heap_setCell W' ⟨sb, 6, none⟩ _ k hk
  have hbl : Below B W (W'.setCell ⟨sb, 6, none⟩ (.slice (some ⟨g1, 0, none⟩) (rej.length + 1) c1)) := hbl0.setCell (p := ⟨sb, 6, none⟩) h.ge.1 _
  have hle : (rej ++ [x]).length = rej.length + 1 := by simp
  have hng : g1 ≠ sb ∧ g1 ≠ wb ∧ ob < g1 := by
    rcases hn with ⟨e, _⟩ | h
    · have hq : (Value.slice rg rej.length rk).ownBlock = some g1 := by rw [e]; rfl
      exact ⟨(n6 g1 hq).1, h.rr g1 hq⟩
    · exact ⟨by omega, by omega, by omega⟩
  refine ⟨⟨?_, row_of h.rowF (fun q hq => by cases hq; exact (hk _ (Ne.symm n1)).trans e1), row_of h.rowO (fun q hq => by cases hq; exact (hk _ (Ne.symm n2)).trans e2), ?_, ⟨s, r, ((hk cb (Ne.symm n3)).trans e3).trans hc⟩, h.fl, h.ol, h.wo, fun q hq => ?_, h.ge, h.lanes.below hbl⟩, hbl⟩
  · rw [hle]; exact b1
  · rw [hle]; exact row_of hr (fun q hq => by cases hq; exact hk _ hng.1)
  · have e : g1 = q := by simpa [Value.ownBlock] using hq
    subst e; exact hng.2
theorem SoI.send (h : SoI B sb wb ob cb la lc ls m wc oc buf full out rej tk rc rg rk W) (buf2 : Array Value) (s r : Nat) : SoI B sb wb ob cb la lc ls m wc oc buf2 full out rej tk rc rg rk (W.setChan cb m buf2 false s r false) ∧ Below B W (W.setChan cb m buf2 false s r false) := by
  obtain ⟨l1, l2, l3, l4⟩ := h.lt
  obtain ⟨⟨n1, n2, n3⟩, ⟨n4, n5⟩, n6⟩ := h.ne
  have hk : ∀ k, k ≠ cb → (W.setChan cb m buf2 false s r false).heap[k]? = W.heap[k]? := fun k hk => by simp only [World.setChan]; rw [Array.getElem?_setIfInBounds_ne (Ne.symm hk)]
  have hbl : Below B W (W.setChan cb m buf2 false s r false) := below_setChan (Below.refl _ _) h.ge.2 _ _ _ _ _ _
  exact ⟨⟨(hk sb n3).trans h.box, row_of h.rowF (fun q hq => by cases hq; exact hk _ (Ne.symm n4)), row_of h.rowO (fun q hq => by cases hq; exact hk _ (Ne.symm n5)), row_of h.rowR (fun q hq => hk q (n6 q hq).2), ⟨s, r, heap_setChan _ _ _ _ _ _ _ _ l4⟩, h.fl, h.ol, h.wo, h.rr, h.ge, h.lanes.below hbl⟩, hbl⟩
theorem SoI.cells (h : SoI B sb wb ob cb la lc ls m wc oc buf full out rej tk rc rg rk W) : (W.cell? ⟨sb, 0, none⟩ = some (.slice la ls.length lc) ∧ W.cell? ⟨sb, 1, none⟩ = some (.slice (some ⟨wb, 0, none⟩) ls.length wc) ∧ W.cell? ⟨sb, 2, none⟩ = some (.chan (some cb)) ∧ W.cell? ⟨sb, 3, none⟩ = some (.int .i64 tk)) ∧ (W.cell? ⟨sb, 4, none⟩ = some (.int .i64 rc) ∧ W.cell? ⟨sb, 5, none⟩ = some (.slice (some ⟨ob, 0, none⟩) m oc) ∧ W.cell? ⟨sb, 6, none⟩ = some (.slice rg rej.length rk)) ∧ ∀ j, W.frozen? ⟨sb, j, none⟩ = false :=
  ⟨⟨blkCell h.box 0 _ rfl, blkCell h.box 1 _ rfl, blkCell h.box 2 _ rfl, blkCell h.box 3 _ rfl⟩, ⟨blkCell h.box 4 _ rfl, blkCell h.box 5 _ rfl, blkCell h.box 6 _ rfl⟩, fun j => blkFree h.box j⟩
theorem SoI.lane (h : SoI B sb wb ob cb la lc ls m wc oc buf full out rej tk rc rg rk W) {k : Nat} (hk : k < ls.length) : ∃ b o, la = some ⟨b, o, none⟩ ∧ W.cell? ⟨b, o + k * 2, none⟩ = some (.int .i64 (ls.getD k zLa).rm) ∧ W.cell? ⟨b, o + k * 2 + 1, none⟩ = some (.int .i64 (ls.getD k zLa).ev) := by
  rcases h.lanes with e | ⟨b, o, e, _, hat⟩
  · rw [e] at hk; simp at hk
  · exact ⟨b, o, e, (hat k hk).1, (hat k hk).2⟩
end
end Go.Proofs.Ythmhpgbkapjjkaa
