/-
  What Settle answers, in memory: the pairs, each in a block of its own, and two rows of numbers; how it grows.
-/
import Derived.Test.YtgjffmeafdpfhaaSxA
import Derived.Test.YtgjffmeafdpfhaaMkP
import Derived.Test.YtgjffmeafdpfhaaAppAny
namespace Go.Proofs.Ytgjffmeafdpfhaa
open Go.ChangeShapes Go.WideShapes Go.ChangeAt Go.RowKit Go.Deep
set_option linter.unusedVariables false

def nV (n : Nat) : Value := .int .i64 (n : Int)
def prV (p : Nat × Nat) : List Value := [nV p.1, nV p.2]
def FarV (a b : Value) : Prop := ∀ q, a.ownBlock = some q → b.ownBlock ≠ some q
theorem FarV.symm {a b : Value} (h : FarV a b) : FarV b a := fun q h1 h2 => h q h2 h1
structure AnsM (B : Nat) (ps : List (Nat × Nat)) (ms bs : List Nat) (pv mv bv : Value) (vs : Nat → Value) (W : World) : Prop where
  prow : W.ownsRow B 27 1 pv ps.length ((List.range ps.length).map vs)
  each : ∀ i, i < ps.length → W.ownsRow B 3 1 (vs i) 2 (prV (ps.getD i (0, 0)))
  far : ∀ i j, i < ps.length → j < ps.length → i ≠ j → FarV (vs i) (vs j)
  mrow : W.ownsRow B 3 1 mv ms.length (ms.map nV)
  brow : W.ownsRow B 3 1 bv bs.length (bs.map nV)
  mb : FarV mv bv
  vm : ∀ i, i < ps.length → FarV (vs i) mv
  vb : ∀ i, i < ps.length → FarV (vs i) bv
/-- Its blocks. -/
def AnsX (n : Nat) (pv mv bv : Value) (vs : Nat → Value) (q : Nat) : Prop := pv.ownBlock = some q ∨ mv.ownBlock = some q ∨ bv.ownBlock = some q ∨ ∃ i, i < n ∧ (vs i).ownBlock = some q
theorem AnsM.same {B : Nat} {ps : List (Nat × Nat)} {ms bs : List Nat} {pv mv bv : Value} {vs : Nat → Value} {W W' : World} (h : AnsM B ps ms bs pv mv bv vs W) (hk : ∀ q, AnsX ps.length pv mv bv vs q → W'.heap[q]? = W.heap[q]?) : AnsM B ps ms bs pv mv bv vs W' :=
  ⟨row_of h.prow (fun q hq => hk q (.inl hq)), fun i hi => row_of (h.each i hi) (fun q hq => hk q (.inr (.inr (.inr ⟨i, hi, hq⟩)))), h.far, row_of h.mrow (fun q hq => hk q (.inr (.inl hq))), row_of h.brow (fun q hq => hk q (.inr (.inr (.inl hq)))), h.mb, h.vm, h.vb⟩
theorem AnsM.lt {B : Nat} {ps : List (Nat × Nat)} {ms bs : List Nat} {pv mv bv : Value} {vs : Nat → Value} {W : World} (h : AnsM B ps ms bs pv mv bv vs W) : ∀ q, AnsX ps.length pv mv bv vs q → B ≤ q ∧ q < W.heap.size := by
  rintro q (hq | hq | hq | ⟨i, hi, hq⟩)
  · exact row_lt h.prow q hq
  · exact row_lt h.mrow q hq
  · exact row_lt h.brow q hq
  · exact row_lt (h.each i hi) q hq
theorem AnsM.typ {B : Nat} {ps : List (Nat × Nat)} {ms bs : List Nat} {pv mv bv : Value} {vs : Nat → Value} {W : World} (h : AnsM B ps ms bs pv mv bv vs W) : ∀ q, AnsX ps.length pv mv bv vs q → ∃ cur t, W.heap[q]? = some (.cells cur t (0, 0)) ∧ (t = 27 ∨ t = 3) := by
  rintro q (hq | hq | hq | ⟨i, hi, hq⟩)
  · obtain ⟨c, hc⟩ := row_type h.prow hq; exact ⟨c, _, hc, .inl rfl⟩
  · obtain ⟨c, hc⟩ := row_type h.mrow hq; exact ⟨c, _, hc, .inr rfl⟩
  · obtain ⟨c, hc⟩ := row_type h.brow hq; exact ⟨c, _, hc, .inr rfl⟩
  · obtain ⟨c, hc⟩ := row_type (h.each i hi) hq; exact ⟨c, _, hc, .inr rfl⟩
theorem AnsM.later {B : Nat} {ps : List (Nat × Nat)} {ms bs : List Nat} {pv mv bv : Value} {vs : Nat → Value} {W W' : World} (h : AnsM B ps ms bs pv mv bv vs W) (hb : Below W.heap.size W W') : AnsM B ps ms bs pv mv bv vs W' := h.same (fun q hq => hb.block q (h.lt q hq).2)
theorem far_typ {W : World} {B B' n n' k k' : Nat} {t t' : TypeId} {v v' : Value} {xs xs' : List Value} (h : W.ownsRow B t k v n xs) (h' : W.ownsRow B' t' k' v' n' xs') (ht : t ≠ t') : FarV v v' := fun q hq e => by
  obtain ⟨c1, h1⟩ := row_type h hq
  obtain ⟨c2, h2⟩ := row_type h' e
  rw [h1] at h2
  simp at h2
  exact ht h2.2
theorem far_grown {W : World} {v v' u : Value} (hg : ∀ q, v'.ownBlock = some q → v.ownBlock = some q ∨ W.heap.size ≤ q) (hf : FarV u v) (hu : ∀ q, u.ownBlock = some q → q < W.heap.size) : FarV u v' := fun q hq e => by
  rcases hg q e with h | h
  · exact hf q hq h
  · have := hu q hq; omega
theorem AnsM.pushM {B : Nat} {ps : List (Nat × Nat)} {ms bs : List Nat} {pv mv bv nv : Value} {vs : Nat → Value} {W W' : World} {i : Nat} (h : AnsM B ps ms bs pv mv bv vs W) (ho : W'.ownsRow B 3 1 nv (ms.length + 1) (ms.map nV ++ [nV i])) (hg : W.grownBy W' mv.ownBlock) (hat : ∀ q, nv.ownBlock = some q → mv.ownBlock = some q ∨ W.heap.size ≤ q) : AnsM B ps (ms ++ [i]) bs pv nv bv vs W' := by
  have hf := fr_grown hg
  have hk : ∀ u : Value, FarV u mv → ∀ q, u.ownBlock = some q → q < W.heap.size → W'.heap[q]? = W.heap[q]? := fun u hu q hq hl => hf.block q hl (hu q hq)
  have hpm : FarV pv mv := far_typ h.prow h.mrow (by decide)
  refine ⟨row_of h.prow (fun q hq => hk pv hpm q hq (row_lt h.prow q hq).2), fun j hj => row_of (h.each j hj) (fun q hq => hk _ (h.vm j hj) q hq (row_lt (h.each j hj) q hq).2), h.far, ?_, row_of h.brow (fun q hq => hk bv h.mb.symm q hq (row_lt h.brow q hq).2), ?_, fun j hj => ?_, h.vb⟩
  · rw [List.length_append, List.map_append]; exact ho
  · exact (far_grown hat h.mb.symm (fun q hq => (row_lt h.brow q hq).2)).symm
  · exact far_grown hat (h.vm j hj) (fun q hq => (row_lt (h.each j hj) q hq).2)
theorem AnsM.pushB {B : Nat} {ps : List (Nat × Nat)} {ms bs : List Nat} {pv mv bv nv : Value} {vs : Nat → Value} {W W' : World} {i : Nat} (h : AnsM B ps ms bs pv mv bv vs W) (ho : W'.ownsRow B 3 1 nv (bs.length + 1) (bs.map nV ++ [nV i])) (hg : W.grownBy W' bv.ownBlock) (hat : ∀ q, nv.ownBlock = some q → bv.ownBlock = some q ∨ W.heap.size ≤ q) : AnsM B ps ms (bs ++ [i]) pv mv nv vs W' := by
  have hf := fr_grown hg
  have hk : ∀ u : Value, FarV u bv → ∀ q, u.ownBlock = some q → q < W.heap.size → W'.heap[q]? = W.heap[q]? := fun u hu q hq hl => hf.block q hl (hu q hq)
  have hpm : FarV pv bv := far_typ h.prow h.brow (by decide)
  refine ⟨row_of h.prow (fun q hq => hk pv hpm q hq (row_lt h.prow q hq).2), fun j hj => row_of (h.each j hj) (fun q hq => hk _ (h.vb j hj) q hq (row_lt (h.each j hj) q hq).2), h.far, row_of h.mrow (fun q hq => hk mv h.mb q hq (row_lt h.mrow q hq).2), ?_, ?_, h.vm, fun j hj => ?_⟩
  · rw [List.length_append, List.map_append]; exact ho
  · exact far_grown hat h.mb (fun q hq => (row_lt h.mrow q hq).2)
  · exact far_grown hat (h.vb j hj) (fun q hq => (row_lt (h.each j hj) q hq).2)
def vsAdd (vs : Nat → Value) (n b : Nat) (i : Nat) : Value := if i = n then .slice (some ⟨b, 0, none⟩) 2 2 else vs i
theorem vsAdd_map (vs : Nat → Value) (n b : Nat) : (List.range (n + 1)).map (vsAdd vs n b) = (List.range n).map vs ++ [.slice (some ⟨b, 0, none⟩) 2 2] := by
  rw [List.range_succ, List.map_append]
  congr 1
  · apply List.map_congr_left
    intro i hi
    have := List.mem_range.1 hi
    unfold vsAdd
    rw [if_neg (by omega)]
  · simp [vsAdd]
theorem AnsM.pushP {B : Nat} {ps : List (Nat × Nat)} {ms bs : List Nat} {pv mv bv nv : Value} {vs : Nat → Value} {W W5 W' : World} {i j b : Nat} (h : AnsM B ps ms bs pv mv bv vs W) (hB : B ≤ W.heap.size) (hb : Below W.heap.size W W5) (hlo : W.heap.size ≤ b) (hbk : W5.heap[b]? = some (.cells #[nV i, nV j] 3 (0, 0)))
    (ho : W'.ownsRow B 27 1 nv (ps.length + 1) ((List.range ps.length).map vs ++ [.slice (some ⟨b, 0, none⟩) 2 2])) (hg : W5.grownBy W' pv.ownBlock) : AnsM B (ps ++ [(i, j)]) ms bs nv mv bv (vsAdd vs ps.length b) W' := by
  have h5 := h.later hb
  have hf := fr_grown hg
  have hpb : pv.ownBlock ≠ some b := fun e => by have := (row_lt h.prow b e).2; omega
  have hbn : W'.heap[b]? = some (.cells #[nV i, nV j] 3 (0, 0)) := (hf.block b (blkLt hbk) hpb).trans hbk
  have hk : ∀ u : Value, FarV u pv → ∀ q, u.ownBlock = some q → q < W5.heap.size → W'.heap[q]? = W5.heap[q]? := fun u hu q hq hl => hf.block q hl (hu q hq)
  have e1 : (ps ++ [(i, j)]).length = ps.length + 1 := by simp
  have hat : ∀ k, k < ps.length → vsAdd vs ps.length b k = vs k := fun k hk => by unfold vsAdd; rw [if_neg (by omega)]
  have hlast : vsAdd vs ps.length b ps.length = .slice (some ⟨b, 0, none⟩) 2 2 := by unfold vsAdd; rw [if_pos rfl]
  have hold : ∀ u : Value, (∀ q, u.ownBlock = some q → q < W.heap.size) → FarV (.slice (some ⟨b, 0, none⟩) 2 2) u := fun u hu q hq e => by
    have hq2 : b = q := by simpa [Value.ownBlock] using hq
    subst hq2
    have := hu b e; omega
  refine ⟨?_, fun k hk' => ?_, fun k l hk' hl' hne => ?_, row_of h5.mrow (fun q hq => hk mv (far_typ h5.mrow h5.prow (by decide)) q hq (row_lt h5.mrow q hq).2), row_of h5.brow (fun q hq => hk bv (far_typ h5.brow h5.prow (by decide)) q hq (row_lt h5.brow q hq).2), h.mb, fun k hk' => ?_, fun k hk' => ?_⟩
  · rw [e1, vsAdd_map]; exact ho
  · rw [e1] at hk'
    by_cases e : k = ps.length
    · subst e
      rw [hlast, show (ps ++ [(i, j)]).getD ps.length (0, 0) = (i, j) by simp]
      exact ⟨rfl, .inr ⟨b, 2, _, rfl, by omega, hbn, Nat.le_refl _, by unfold maxLen; omega, rfl, rfl⟩⟩
    · rw [hat k (by omega), show (ps ++ [(i, j)]).getD k (0, 0) = ps.getD k (0, 0) by simp only [List.getD_eq_getElem?_getD]; rw [List.getElem?_append_left (by omega)]]
      have he := h5.each k (by omega)
      exact row_of he (fun q hq => hk _ (far_typ he h5.prow (by decide)) q hq (row_lt he q hq).2)
  · rw [e1] at hk' hl'
    by_cases ek : k = ps.length
    · subst ek
      rw [hlast, hat l (by omega)]
      exact hold _ (fun q hq => (row_lt (h.each l (by omega)) q hq).2)
    · by_cases el : l = ps.length
      · subst el
        rw [hlast, hat k (by omega)]
        exact (hold _ (fun q hq => (row_lt (h.each k (by omega)) q hq).2)).symm
      · rw [hat k (by omega), hat l (by omega)]
        exact h.far k l (by omega) (by omega) hne
  · rw [e1] at hk'
    by_cases ek : k = ps.length
    · subst ek; rw [hlast]; exact hold _ (fun q hq => (row_lt h.mrow q hq).2)
    · rw [hat k (by omega)]; exact h.vm k (by omega)
  · rw [e1] at hk'
    by_cases ek : k = ps.length
    · subst ek; rw [hlast]; exact hold _ (fun q hq => (row_lt h.brow q hq).2)
    · rw [hat k (by omega)]; exact h.vb k (by omega)
/-- An answer on its way: its struct in block mb, who of bank has a pair in the row pb. -/
structure Mx (w : World) (mb pb n : Nat) (tk : Nat → Bool) (ps : List (Nat × Nat)) (ms bs : List Nat) (df : Int) (pv mv bv : Value) (vs : Nat → Value) (W : World) : Prop where
  box : W.heap[mb]? = some (.cells #[pv, mv, bv, .int .i64 df] 29 (0, 0))
  par : W.rowIs pb 4 n (fun j => .bool (tk j))
  ans : AnsM w.heap.size ps ms bs pv mv bv vs W
  low : Below w.heap.size w W
  mlo : w.heap.size ≤ mb
  plo : w.heap.size ≤ pb
theorem Mx.later {w : World} {mb pb n : Nat} {tk : Nat → Bool} {ps : List (Nat × Nat)} {ms bs : List Nat} {df : Int} {pv mv bv : Value} {vs : Nat → Value} {W W' : World} (h : Mx w mb pb n tk ps ms bs df pv mv bv vs W) (hb : Below W.heap.size W W') : Mx w mb pb n tk ps ms bs df pv mv bv vs W' :=
  ⟨(hb.block mb (blkLt h.box)).trans h.box, h.par.of_block (hb.block pb h.par.lt), h.ans.later hb, chain h.low hb, h.mlo, h.plo⟩
theorem Mx.ne {w : World} {mb pb n : Nat} {tk : Nat → Bool} {ps : List (Nat × Nat)} {ms bs : List Nat} {df : Int} {pv mv bv : Value} {vs : Nat → Value} {W : World} (h : Mx w mb pb n tk ps ms bs df pv mv bv vs W) : pb ≠ mb ∧ ∀ q, AnsX ps.length pv mv bv vs q → q ≠ mb ∧ q ≠ pb := by
  obtain ⟨c, hc, _⟩ := h.par
  refine ⟨fun e => ?_, fun q hq => ⟨fun e => ?_, fun e => ?_⟩⟩
  · rw [e, h.box] at hc; simp at hc
  · obtain ⟨cur, t, h1, h2⟩ := h.ans.typ q hq
    rw [e, h.box] at h1
    rcases h2 with rfl | rfl <;> simp at h1
  · obtain ⟨cur, t, h1, h2⟩ := h.ans.typ q hq
    rw [e, hc] at h1
    rcases h2 with rfl | rfl <;> simp at h1
theorem Mx.take {w : World} {mb pb n : Nat} {tk : Nat → Bool} {ps : List (Nat × Nat)} {ms bs : List Nat} {df : Int} {pv mv bv : Value} {vs : Nat → Value} {W : World} (h : Mx w mb pb n tk ps ms bs df pv mv bv vs W) (j : Nat) : Mx w mb pb n (fun q => if q = j then true else tk q) ps ms bs df pv mv bv vs (W.setCell ⟨pb, j, none⟩ (.bool true)) := by
  refine ⟨(Below.heap_setCell _ _ _ _ (fun e => h.ne.1 e.symm)).trans h.box, (h.par.set j (.bool true)).congr (fun i hi => ?_), h.ans.same (fun q hq => Below.heap_setCell _ _ _ _ (h.ne.2 q hq).2), h.low.setCell h.plo _, h.mlo, h.plo⟩
  try dsimp only
  split <;> rfl
theorem Mx.diff {w : World} {mb pb n : Nat} {tk : Nat → Bool} {ps : List (Nat × Nat)} {ms bs : List Nat} {df : Int} {pv mv bv : Value} {vs : Nat → Value} {W : World} (h : Mx w mb pb n tk ps ms bs df pv mv bv vs W) (x : Int) : Mx w mb pb n tk ps ms bs x pv mv bv vs (W.setCell ⟨mb, 3, none⟩ (.int .i64 x)) :=
  ⟨Go.heap_setCell_same _ _ _ _ _ _ h.box, h.par.setOther h.ne.1 _, h.ans.same (fun q hq => Below.heap_setCell _ _ _ _ (h.ne.2 q hq).1), h.low.setCell h.mlo _, h.mlo, h.plo⟩
/-- What stays where a row of the answer grows. -/
theorem Mx.rest {w : World} {mb pb n : Nat} {tk : Nat → Bool} {ps : List (Nat × Nat)} {ms bs : List Nat} {df : Int} {pv mv bv v : Value} {vs : Nat → Value} {W W' : World} (h : Mx w mb pb n tk ps ms bs df pv mv bv vs W) (hv : ∀ q, v.ownBlock = some q → AnsX ps.length pv mv bv vs q) (hg : W.grownBy W' v.ownBlock) :
    W'.heap[mb]? = some (.cells #[pv, mv, bv, .int .i64 df] 29 (0, 0)) ∧ W'.rowIs pb 4 n (fun j => .bool (tk j)) ∧ Below w.heap.size w W' := by
  have hf := fr_grown hg
  refine ⟨(hf.block mb (blkLt h.box) (fun e => (h.ne.2 mb (hv mb e)).1 rfl)).trans h.box, h.par.of_block (hf.block pb h.par.lt (fun e => (h.ne.2 pb (hv pb e)).2 rfl)), h.low.grown hg (h.low.size) (fun q hq => (h.ans.lt q (hv q hq)).1)⟩
theorem Mx.addM {w : World} {mb pb n : Nat} {tk : Nat → Bool} {ps : List (Nat × Nat)} {ms bs : List Nat} {df : Int} {pv mv bv : Value} {vs : Nat → Value} {W W' : World} {i : Nat} {va : Option Addr} {vc : Nat} (h : Mx w mb pb n tk ps ms bs df pv mv bv vs W) (ho : W'.ownsRow w.heap.size 3 1 (.slice va (ms.length + 1) vc) (ms.length + 1) (ms.map nV ++ [nV i])) (hg : W.grownBy W' mv.ownBlock) (hat : ∀ q, Value.ownBlock (.slice va (ms.length + 1) vc) = some q → mv.ownBlock = some q ∨ W.heap.size ≤ q) :
    W'.heap[mb]? = some (.cells #[pv, mv, bv, .int .i64 df] 29 (0, 0)) ∧ Mx w mb pb n tk ps (ms ++ [i]) bs df pv (.slice va (ms.length + 1) vc) bv vs (W'.setCell ⟨mb, 1, none⟩ (.slice va (ms.length + 1) vc)) := by
  obtain ⟨h1, h2, h3⟩ := h.rest (v := mv) (fun q hq => .inr (.inl hq)) hg
  have h4 := h.ans.pushM ho hg hat
  have hne : ∀ q, AnsX ps.length pv (.slice va (ms.length + 1) vc) bv vs q → q ≠ mb := fun q hq e => by
    obtain ⟨cur, t, k1, k2⟩ := h4.typ q hq
    rw [e, h1] at k1
    rcases k2 with rfl | rfl <;> simp at k1
  exact ⟨h1, Go.heap_setCell_same _ _ _ _ _ _ h1, h2.setOther h.ne.1 _, h4.same (fun q hq => Below.heap_setCell _ _ _ _ (hne q hq)), h3.setCell h.mlo _, h.mlo, h.plo⟩
theorem Mx.addB {w : World} {mb pb n : Nat} {tk : Nat → Bool} {ps : List (Nat × Nat)} {ms bs : List Nat} {df : Int} {pv mv bv : Value} {vs : Nat → Value} {W W' : World} {i : Nat} {va : Option Addr} {vc : Nat} (h : Mx w mb pb n tk ps ms bs df pv mv bv vs W) (ho : W'.ownsRow w.heap.size 3 1 (.slice va (bs.length + 1) vc) (bs.length + 1) (bs.map nV ++ [nV i])) (hg : W.grownBy W' bv.ownBlock) (hat : ∀ q, Value.ownBlock (.slice va (bs.length + 1) vc) = some q → bv.ownBlock = some q ∨ W.heap.size ≤ q) :
    W'.heap[mb]? = some (.cells #[pv, mv, bv, .int .i64 df] 29 (0, 0)) ∧ Mx w mb pb n tk ps ms (bs ++ [i]) df pv mv (.slice va (bs.length + 1) vc) vs (W'.setCell ⟨mb, 2, none⟩ (.slice va (bs.length + 1) vc)) := by
  obtain ⟨h1, h2, h3⟩ := h.rest (v := bv) (fun q hq => .inr (.inr (.inl hq))) hg
  have h4 := h.ans.pushB ho hg hat
  have hne : ∀ q, AnsX ps.length pv mv (.slice va (bs.length + 1) vc) vs q → q ≠ mb := fun q hq e => by
    obtain ⟨cur, t, k1, k2⟩ := h4.typ q hq
    rw [e, h1] at k1
    rcases k2 with rfl | rfl <;> simp at k1
  exact ⟨h1, Go.heap_setCell_same _ _ _ _ _ _ h1, h2.setOther h.ne.1 _, h4.same (fun q hq => Below.heap_setCell _ _ _ _ (hne q hq)), h3.setCell h.mlo _, h.mlo, h.plo⟩
theorem Mx.addP {w : World} {mb pb n : Nat} {tk : Nat → Bool} {ps : List (Nat × Nat)} {ms bs : List Nat} {df : Int} {pv mv bv : Value} {vs : Nat → Value} {W W5 W' : World} {i j b : Nat} {va : Option Addr} {vc : Nat} (h : Mx w mb pb n tk ps ms bs df pv mv bv vs W) (hb : Below W.heap.size W W5) (hlo : W.heap.size ≤ b) (hbk : W5.heap[b]? = some (.cells #[nV i, nV j] 3 (0, 0)))
    (ho : W'.ownsRow w.heap.size 27 1 (.slice va (ps.length + 1) vc) (ps.length + 1) ((List.range ps.length).map vs ++ [.slice (some ⟨b, 0, none⟩) 2 2])) (hg : W5.grownBy W' pv.ownBlock) :
    W'.heap[mb]? = some (.cells #[pv, mv, bv, .int .i64 df] 29 (0, 0)) ∧ Mx w mb pb n tk (ps ++ [(i, j)]) ms bs df (.slice va (ps.length + 1) vc) mv bv (vsAdd vs ps.length b) (W'.setCell ⟨mb, 0, none⟩ (.slice va (ps.length + 1) vc)) := by
  obtain ⟨h1, h2, h3⟩ := (h.later hb).rest (v := pv) (fun q hq => .inl hq) hg
  have h4 := h.ans.pushP h.low.size hb hlo hbk ho hg
  have hne : ∀ q, AnsX (ps ++ [(i, j)]).length (.slice va (ps.length + 1) vc) mv bv (vsAdd vs ps.length b) q → q ≠ mb := fun q hq e => by
    obtain ⟨cur, t, k1, k2⟩ := h4.typ q hq
    rw [e, h1] at k1
    rcases k2 with rfl | rfl <;> simp at k1
  exact ⟨h1, Go.heap_setCell_same _ _ _ _ _ _ h1, h2.setOther h.ne.1 _, h4.same (fun q hq => Below.heap_setCell _ _ _ _ (hne q hq)), h3.setCell h.mlo _, h.mlo, h.plo⟩
/-- Nothing yet. -/
theorem ansM_none (B : Nat) (W : World) : AnsM B [] [] [] (.slice none 0 0) (.slice none 0 0) (.slice none 0 0) (fun _ => .slice none 0 0) W :=
  ⟨⟨rfl, .inl ⟨rfl, rfl⟩⟩, fun i hi => by simp at hi, fun i j hi => by simp at hi, ⟨rfl, .inl ⟨rfl, rfl⟩⟩, ⟨rfl, .inl ⟨rfl, rfl⟩⟩, fun q hq => by simp [Value.ownBlock] at hq, fun i hi => by simp at hi, fun i hi => by simp at hi⟩
end Go.Proofs.Ytgjffmeafdpfhaa
