/-
  A plan that is being laid in memory (its box, its rows of numbers that grow); the contract of the program's ladder.plan.
-/
import Derived.Test.YtlcnhkhkhlpghaaMqB
namespace Go.Proofs.Ytlcnhkhkhlpghaa
open Go.ChangeShapes Go.WideShapes Go.ChangeAt Go.RowKit Go.Deep Go.Joins
set_option linter.unusedVariables false

/-- The plan's box P and the answer's box R, both from block B on. -/
structure Pn (B P R : Nat) (w wr : World) (v0 v1 : Value) (x y : Int) : Prop where
  box : wr.heap[P]? = some (.cells #[v0, v1, .int .i64 x, .int .i64 y] 28 (0, 0))
  res : wr.heap[R]? = some (.cells #[.slice none 0 0, .slice none 0 0, .int .i64 0, .int .i64 0] 28 (0, 0))
  low : B ≤ P ∧ B ≤ R ∧ P ≠ R
  bel : Below B w wr
/-- A row of numbers from block B on, in a block that X does not name. -/
def RwN (B : Nat) (X : Nat → Prop) (wr : World) (v : Value) (L : List Int) : Prop := wr.ownsRow B 3 1 v L.length (L.map (Value.int .i64)) ∧ ∀ q, v.ownBlock = some q → ¬ X q
theorem Pn.later {B P R : Nat} {w wr w' : World} {v0 v1 : Value} {x y : Int} (h : Pn B P R w wr v0 v1 x y) (hb : Below wr.heap.size wr w') (hB : B ≤ wr.heap.size) : Pn B P R w w' v0 v1 x y :=
  ⟨(hb.block P (blkLt h.box)).trans h.box, (hb.block R (blkLt h.res)).trans h.res, h.low, h.bel.trans (hb.mono hB)⟩
theorem Pn.grown {B P R : Nat} {w wr w' : World} {v0 v1 : Value} {x y : Int} (h : Pn B P R w wr v0 v1 x y) {o : Option Nat} (hg : wr.grownBy w' o) (hB : B ≤ wr.heap.size) (hP : ∀ q, o = some q → q ≠ P ∧ q ≠ R ∧ B ≤ q) : Pn B P R w w' v0 v1 x y :=
  ⟨(hg.block P (blkLt h.box) (fun e => (hP P e.symm).1 rfl)).trans h.box, (hg.block R (blkLt h.res) (fun e => (hP R e.symm).2.1 rfl)).trans h.res, h.low, h.bel.grown hg hB (fun q hq => (hP q hq).2.2)⟩
theorem pl_set0 {W : World} {b : Nat} {v0 v1 v2 v3 : Value} {t : TypeId} (h : W.heap[b]? = some (.cells #[v0, v1, v2, v3] t (0, 0))) (v : Value) : (W.setCell ⟨b, 0, none⟩ v).heap[b]? = some (.cells #[v, v1, v2, v3] t (0, 0)) := by
  have e := heap_setCell_same _ _ 0 _ _ v h
  simp only [List.setIfInBounds_toArray, List.set_cons_zero] at e
  exact e
theorem pl_set1 {W : World} {b : Nat} {v0 v1 v2 v3 : Value} {t : TypeId} (h : W.heap[b]? = some (.cells #[v0, v1, v2, v3] t (0, 0))) (v : Value) : (W.setCell ⟨b, 1, none⟩ v).heap[b]? = some (.cells #[v0, v, v2, v3] t (0, 0)) := by
  have e := heap_setCell_same _ _ 1 _ _ v h
  simp only [List.setIfInBounds_toArray, List.set_cons_zero, List.set_cons_succ] at e
  exact e
theorem pl_set2 {W : World} {b : Nat} {v0 v1 v2 v3 : Value} {t : TypeId} (h : W.heap[b]? = some (.cells #[v0, v1, v2, v3] t (0, 0))) (v : Value) : (W.setCell ⟨b, 2, none⟩ v).heap[b]? = some (.cells #[v0, v1, v, v3] t (0, 0)) := by
  have e := heap_setCell_same _ _ 2 _ _ v h
  simp only [List.setIfInBounds_toArray, List.set_cons_zero, List.set_cons_succ] at e
  exact e
theorem pl_set3 {W : World} {b : Nat} {v0 v1 v2 v3 : Value} {t : TypeId} (h : W.heap[b]? = some (.cells #[v0, v1, v2, v3] t (0, 0))) (v : Value) : (W.setCell ⟨b, 3, none⟩ v).heap[b]? = some (.cells #[v0, v1, v2, v] t (0, 0)) := by
  have e := heap_setCell_same _ _ 3 _ _ v h
  simp only [List.setIfInBounds_toArray, List.set_cons_zero, List.set_cons_succ] at e
  exact e
theorem Pn.put0 {B P R : Nat} {w wr : World} {v0 v1 : Value} {x y : Int} (h : Pn B P R w wr v0 v1 x y) (v : Value) : Pn B P R w (wr.setCell ⟨P, 0, none⟩ v) v v1 x y :=
  ⟨pl_set0 h.box v, (Below.heap_setCell _ _ _ _ (Ne.symm h.low.2.2)).trans h.res, h.low, h.bel.setCell h.low.1 _⟩
theorem Pn.put1 {B P R : Nat} {w wr : World} {v0 v1 : Value} {x y : Int} (h : Pn B P R w wr v0 v1 x y) (v : Value) : Pn B P R w (wr.setCell ⟨P, 1, none⟩ v) v0 v x y :=
  ⟨pl_set1 h.box v, (Below.heap_setCell _ _ _ _ (Ne.symm h.low.2.2)).trans h.res, h.low, h.bel.setCell h.low.1 _⟩
theorem Pn.put2 {B P R : Nat} {w wr : World} {v0 v1 : Value} {x y : Int} (h : Pn B P R w wr v0 v1 x y) (v : Int) : Pn B P R w (wr.setCell ⟨P, 2, none⟩ (.int .i64 v)) v0 v1 v y :=
  ⟨pl_set2 h.box _, (Below.heap_setCell _ _ _ _ (Ne.symm h.low.2.2)).trans h.res, h.low, h.bel.setCell h.low.1 _⟩
theorem Pn.put3 {B P R : Nat} {w wr : World} {v0 v1 : Value} {x y : Int} (h : Pn B P R w wr v0 v1 x y) (v : Int) : Pn B P R w (wr.setCell ⟨P, 3, none⟩ (.int .i64 v)) v0 v1 x v :=
  ⟨pl_set3 h.box _, (Below.heap_setCell _ _ _ _ (Ne.symm h.low.2.2)).trans h.res, h.low, h.bel.setCell h.low.1 _⟩
theorem RwN.later {B : Nat} {X : Nat → Prop} {wr w' : World} {v : Value} {L : List Int} (h : RwN B X wr v L) (hb : Below wr.heap.size wr w') : RwN B X w' v L := ⟨row_of h.1 (fun q hq => hb.block q (row_lt h.1 q hq).2), h.2⟩
theorem RwN.set {B : Nat} {X : Nat → Prop} {wr : World} {v : Value} {L : List Int} (h : RwN B X wr v L) {b : Nat} (hb : X b) (o : Nat) (u : Value) : RwN B X (wr.setCell ⟨b, o, none⟩ u) v L := ⟨row_of h.1 (fun q hq => Below.heap_setCell _ _ _ _ (fun e => h.2 q hq (by have e' : q = b := e; rw [e']; exact hb))), h.2⟩
theorem RwN.push {B : Nat} {X : Nat → Prop} {wr w' : World} {v : Value} {L : List Int} {g cp : Nat} {x : Int} (h : RwN B X wr v L)
    (ho : w'.ownsRow B 3 1 (.slice (some ⟨g, 0, none⟩) (L.length + 1) cp) (L.length + 1) (L.map (Value.int .i64) ++ [.int .i64 x])) (hat : v.ownBlock = some g ∨ g = wr.heap.size) (hX : ¬ X wr.heap.size) : RwN B X w' (.slice (some ⟨g, 0, none⟩) (L.length + 1) cp) (L ++ [x]) := by
  refine ⟨?_, fun q hq => ?_⟩
  · rw [List.length_append, List.map_append]; exact ho
  · have e : g = q := by simpa [Value.ownBlock] using hq
    subst e
    rcases hat with h1 | h1
    · exact h.2 g h1
    · rw [h1]; exact hX
theorem RwN.own2 {B : Nat} {X : Nat → Prop} {wr : World} {a : Option Addr} {n cp : Nat} {L : List Int} (h : RwN B X wr (.slice a n cp) L) (hn : n = L.length) : Own2 B wr a L := by
  subst hn
  by_cases h0 : L.length = 0
  · exact .inl (List.eq_nil_of_length_eq_zero h0)
  · obtain ⟨g, cap, he, hB, hlt⟩ := h.1.form (by omega)
    simp at he
    obtain ⟨rfl, rfl⟩ := he
    refine .inr ⟨g, rfl, hB, hlt, fun i hi => ?_, fun i hi => ?_⟩
    · rw [Nat.zero_add, h.1.cellAt i (by omega)]; simp [List.getD_eq_getElem?_getD, hi]
    · rw [Nat.zero_add]; exact h.1.frozenAt i
/-- The state of the program's plan: the ladder's box D besides. -/
structure PnS (w : World) (D P R : Nat) (pv dv v0 v : Value) (L : List Int) (x y : Int) (wr : World) : Prop where
  lad : wr.heap[D]? = some (.cells #[pv, dv] 55 (0, 0))
  pn : Pn w.heap.size P R w wr v0 v x y
  row : RwN w.heap.size (fun q => q = D ∨ q = P ∨ q = R) wr v L
  lo : w.heap.size ≤ D ∧ D ≠ P
  sz : w.heap.size ≤ wr.heap.size
theorem PnS.later {w : World} {D P R : Nat} {pv dv v0 v : Value} {L : List Int} {x y : Int} {wr w' : World} (h : PnS w D P R pv dv v0 v L x y wr) (hb : Below wr.heap.size wr w') : PnS w D P R pv dv v0 v L x y w' :=
  ⟨(hb.block D (blkLt h.lad)).trans h.lad, h.pn.later hb h.sz, h.row.later hb, h.lo, Nat.le_trans h.sz hb.size⟩
theorem PnS.put2 {w : World} {D P R : Nat} {pv dv v0 v : Value} {L : List Int} {x y : Int} {wr : World} (h : PnS w D P R pv dv v0 v L x y wr) (u : Int) : PnS w D P R pv dv v0 v L u y (wr.setCell ⟨P, 2, none⟩ (.int .i64 u)) :=
  ⟨(Below.heap_setCell _ _ _ _ h.lo.2).trans h.lad, h.pn.put2 u, h.row.set (.inr (.inl rfl)) _ _, h.lo, by rw [World.size_setCell]; exact h.sz⟩
theorem PnS.put3 {w : World} {D P R : Nat} {pv dv v0 v : Value} {L : List Int} {x y : Int} {wr : World} (h : PnS w D P R pv dv v0 v L x y wr) (u : Int) : PnS w D P R pv dv v0 v L x u (wr.setCell ⟨P, 3, none⟩ (.int .i64 u)) :=
  ⟨(Below.heap_setCell _ _ _ _ h.lo.2).trans h.lad, h.pn.put3 u, h.row.set (.inr (.inl rfl)) _ _, h.lo, by rw [World.size_setCell]; exact h.sz⟩
theorem PnS.push {w : World} {D P R : Nat} {pv dv v0 v : Value} {L : List Int} {x y : Int} {wr w' : World} (h : PnS w D P R pv dv v0 v L x y wr) {g cp : Nat} {z : Int}
    (ho : w'.ownsRow w.heap.size 3 1 (.slice (some ⟨g, 0, none⟩) (L.length + 1) cp) (L.length + 1) (L.map (Value.int .i64) ++ [.int .i64 z])) (hg : wr.grownBy w' v.ownBlock) (hat : v.ownBlock = some g ∨ g = wr.heap.size) :
    PnS w D P R pv dv v0 (.slice (some ⟨g, 0, none⟩) (L.length + 1) cp) (L ++ [z]) x y (w'.setCell ⟨P, 1, none⟩ (.slice (some ⟨g, 0, none⟩) (L.length + 1) cp)) := by
  have hne : ∀ q, v.ownBlock = some q → q ≠ P ∧ q ≠ R ∧ w.heap.size ≤ q := fun q hq => by
    have := h.row.2 q hq
    exact ⟨fun e => this (.inr (.inl e)), fun e => this (.inr (.inr e)), (row_lt h.row.1 q hq).1⟩
  have hD := blkLt h.lad
  have hP := blkLt h.pn.box
  have hR := blkLt h.pn.res
  have r := h.row.push ho hat (show ¬ (wr.heap.size = D ∨ wr.heap.size = P ∨ wr.heap.size = R) by omega)
  refine ⟨(Below.heap_setCell _ _ _ _ h.lo.2).trans ((hg.block D hD (fun e => h.row.2 D e.symm (.inl rfl))).trans h.lad), ?_, r.set (.inr (.inl rfl)) _ _, h.lo, ?_⟩
  · exact (h.pn.grown hg h.sz hne).put1 _
  · rw [World.size_setCell]; exact Nat.le_trans h.sz hg.size

set_option maxHeartbeats 4000000 in
theorem plan_any (price stock : Int) (ps : List Int) (cs : LL) (hok : MkOK price stock ps cs) (ss : List Int) (hst : StOK ps.length cs.length ss) (pb pc : Nat) (da : Option Addr) (dc : Nat) (q : Option Addr) (cq : Nat) (w : World) (hp : Reads w.heap.size w (some ⟨pb, 0, none⟩) (prL price ps)) (hd : ReadsDm w.heap.size w da cs) (hs : Reads w.heap.size w q ss) :
    Calls Try.prog 33 #[.agg #[.slice (some ⟨pb, 0, none⟩) ps.length pc, .slice da cs.length dc], .int .i64 stock, .slice q ss.length cq] w fun e w' => ∃ g cp, e = .returned (.agg #[.slice q ss.length cq, .slice (some ⟨g, 0, none⟩) ss.length cp, .int .i64 (rvN (prL price ps) cs ss stock ss.length), .int .i64 (lfN cs ss stock ss.length)]) ∧ Own2 w.heap.size w' (some ⟨g, 0, none⟩) (slN cs ss stock ss.length) ∧ Below w.heap.size w w' := by
  have HP : Hid (Reads w.heap.size w (some ⟨pb, 0, none⟩) (prL price ps)) := hp
  have HS : Hid (Reads w.heap.size w q ss) := hs
  have HSL : Hid (ss.length = cs.length) := hst.1
  have hc7 := hok.cl.2
  have hp5 := hok.pl.2
  have hs7 : ss.length ≤ 7 := by rw [hst.1]; exact hc7
  have HSo : Hid (∀ (d s : Nat) (l : Int) W, d < cs.length → s < ps.length → Below w.heap.size w W → Calls Try.prog 53 #[.agg #[.slice (some ⟨pb, 0, none⟩) ps.length pc, .slice da cs.length dc], .int .i64 (d : Int), .int .i64 (s : Int), .int .i64 l] W fun e w' => e = .returned (.int .i64 (min ((cs.getD d []).getD s 0) l)) ∧ Below W.heap.size W w') := fun d s l W h1 h2 hb => by
    have e := hok.cr d h1
    exact lsold_any _ _ _ da dc cs hc7 d s h1 (by omega) (by omega) l W (hd.later hb)
  have HBd : Hid (∀ d, d < cs.length → (0 ≤ lfN cs ss stock d ∧ lfN cs ss stock d ≤ 200) ∧ (0 ≤ rvN (prL price ps) cs ss stock d ∧ rvN (prL price ps) cs ss stock d ≤ 1400000000) ∧ 0 ≤ sdN cs ss stock d ∧ sdN cs ss stock d ≤ 200 ∧ (0 ≤ ss.getD d 0 ∧ (ss.getD d 0).toNat < ps.length) ∧ 0 ≤ sdN cs ss stock d * (prL price ps).getD (ss.getD d 0).toNat 0 ∧ sdN cs ss stock d * (prL price ps).getD (ss.getD d 0).toNat 0 ≤ 200000000) := fun d hd' => by
    obtain ⟨a1, a2, a3⟩ := plan_bounds hok hst d (by omega)
    obtain ⟨b1, b2, b3, b4⟩ := sd_bounds hok hst hd'
    exact ⟨a1, ⟨a2, by omega⟩, b1, b2, hst.2 d hd', b3, b4⟩
  have HPL : Hid ((prL price ps).length = ps.length) := prL_len _ _
  clear hp hd hs hok hst
  have hmk : ∀ w, (Instr.makeSlice 23 (.int .i64 0) (.int .i64 (ss.length : Int))).run Try.prog w = .ok (.slice (some ⟨w.heap.size, 0, none⟩) 0 ss.length) (w.alloc (.cells (madeCells #[.int .i64 0] ss.length) 3)) := fun w => run_make_cap ss.length (by omega) w
  obtain ⟨W1, hW1⟩ : ∃ W1, W1 = (w.alloc (Obj.cells #[.slice (some ⟨pb, 0, none⟩) ps.length pc, .slice da cs.length dc] 55)).alloc (Obj.cells #[.slice none 0 0, .slice none 0 0, .int .i64 0, .int .i64 0] 28) := ⟨_, rfl⟩
  obtain ⟨G, hG⟩ : ∃ G, G = W1.heap.size := ⟨_, rfl⟩
  obtain ⟨W2, hW2⟩ : ∃ W2, W2 = (W1.alloc (Obj.cells (madeCells #[.int .i64 0] ss.length) 3)).alloc (Obj.cells #[.slice q ss.length cq, .slice (some ⟨G, 0, none⟩) 0 ss.length, .int .i64 0, .int .i64 stock] 28) := ⟨_, rfl⟩
  obtain ⟨D, hD⟩ : ∃ D, D = w.heap.size := ⟨_, rfl⟩
  obtain ⟨R, hR⟩ : ∃ R, R = w.heap.size + 1 := ⟨_, rfl⟩
  obtain ⟨P, hP⟩ : ∃ P, P = W1.heap.size + 1 := ⟨_, rfl⟩
  have HW1 : Hid (W1 = (w.alloc (Obj.cells #[.slice (some ⟨pb, 0, none⟩) ps.length pc, .slice da cs.length dc] 55)).alloc (Obj.cells #[.slice none 0 0, .slice none 0 0, .int .i64 0, .int .i64 0] 28) ∧ D = w.heap.size ∧ R = w.heap.size + 1) := ⟨hW1, hD, hR⟩
  have HW2 : Hid (W2 = (W1.alloc (Obj.cells (madeCells #[.int .i64 0] ss.length) 3)).alloc (Obj.cells #[.slice q ss.length cq, .slice (some ⟨G, 0, none⟩) 0 ss.length, .int .i64 0, .int .i64 stock] 28) ∧ G = W1.heap.size ∧ P = W1.heap.size + 1) := ⟨hW2, hG, hP⟩
  have HI0 : Hid (PnS w D P R (.slice (some ⟨pb, 0, none⟩) ps.length pc) (.slice da cs.length dc) (.slice q ss.length cq) (.slice (some ⟨G, 0, none⟩) 0 ss.length) (slN cs ss stock 0) 0 stock W2) := by
    have z1 : W1.heap.size = w.heap.size + 2 := by rw [hW1]; simp
    have f := three_alloc w (Obj.cells #[.slice (some ⟨pb, 0, none⟩) ps.length pc, .slice da cs.length dc] 55) (Obj.cells #[.slice none 0 0, .slice none 0 0, .int .i64 0, .int .i64 0] 28) (Obj.cells (madeCells #[.int .i64 0] ss.length) 3)
    rw [← hW1] at f
    have b1 : Below w.heap.size w W1 := by rw [hW1]; exact chain (below_alloc _ _) (below_alloc _ _)
    have b2 : Below w.heap.size w W2 := by rw [hW2]; exact chain (chain b1 (below_alloc _ _)) (below_alloc _ _)
    have o1 := (One.made W1 W1.heap.size rfl ss.length (by omega)).alloc (Obj.cells #[.slice q ss.length cq, .slice (some ⟨G, 0, none⟩) 0 ss.length, .int .i64 0, .int .i64 stock] 28)
    have hx := below_alloc (W1.alloc (Obj.cells (madeCells #[.int .i64 0] ss.length) 3)) (Obj.cells #[.slice q ss.length cq, .slice (some ⟨G, 0, none⟩) 0 ss.length, .int .i64 0, .int .i64 stock] 28)
    rw [← hW2] at o1 hx
    have hz2 : (W1.alloc (Obj.cells (madeCells #[.int .i64 0] ss.length) 3)).heap.size = W1.heap.size + 1 := by simp
    have n2 := heapNew (W1.alloc (Obj.cells (madeCells #[.int .i64 0] ss.length) 3)) (Obj.cells #[.slice q ss.length cq, .slice (some ⟨G, 0, none⟩) 0 ss.length, .int .i64 0, .int .i64 stock] 28)
    rw [← hW2, hz2] at n2
    refine ⟨?_, ⟨?_, ?_, ⟨by omega, by omega, by omega⟩, b2⟩, ⟨?_, fun p hp => ?_⟩, ⟨by omega, by omega⟩, b2.size⟩
    · rw [hD]; exact (hx.block w.heap.size (by omega)).trans f.1
    · rw [hP]; exact n2
    · rw [hR]; exact (hx.block (w.heap.size + 1) (by omega)).trans f.2.1
    · obtain ⟨h1, h2⟩ := o1.1
      refine ⟨h1, ?_⟩
      rcases h2 with h2 | ⟨g, cap, cur, e, hB, r⟩
      · exact .inl (by rw [hG]; exact h2)
      · exact .inr ⟨g, cap, cur, by rw [hG]; exact e, by omega, r⟩
    · have e : G = p := by simpa [Value.ownBlock] using hp
      omega
  have hmul : ∀ x y : Int, 0 ≤ x → x ≤ 1400000000 → 0 ≤ y → y ≤ 200000000 → IntKind.i64.wrap (x + y) = x + y := fun x y h1 h2 h3 h4 => wrap_id _ (by omega) (by omega)
  clear hW1 hW2 hG hD hR hP
  obtain ⟨i0, hi, hzz⟩ := Option.map_eq_some_iff.1 intInfo1
  simp only [Prod.mk.injEq] at hzz
  obtain ⟨hi0, hi1, hi2⟩ := hzz
  go_enter Try.func33, Try.ntmps33
  go_upto_region 1 with fail
  rw [← HW1.out.1]
  try rw [← HW1.out.2.2]
  try rw [← HW1.out.2.1]
  clear HW1
  go_upto_region 2 with fail
  rw [← HW2.out.2.2, ← HW2.out.2.1, ← HW2.out.1]
  clear HW2 hmk
  go_wp2_with fail
  go_loopw [8, 9, 10, 19] (fun _ _ _ c wr => ∃ k g cp : Nat, k ≤ ss.length ∧ c = .int .i64 (k : Int) ∧ PnS w D P R (.slice (some ⟨pb, 0, none⟩) ps.length pc) (.slice da cs.length dc) (.slice q ss.length cq) (.slice (some ⟨g, 0, none⟩) k cp) (slN cs ss stock k) (rvN (prL price ps) cs ss stock k) (lfN cs ss stock k) wr) (fun _ _ _ c _ => ss.length - (intOf c).toNat)
  case atStart => exact ⟨0, G, ss.length, Nat.zero_le _, rfl, HI0.out⟩
  case round =>
    clear HI0
    obtain ⟨k, g, cp, hk, rfl, hst⟩ := hrel
    have HI : Hid (PnS w D P R (.slice (some ⟨pb, 0, none⟩) ps.length pc) (.slice da cs.length dc) (.slice q ss.length cq) (.slice (some ⟨g, 0, none⟩) k cp) (slN cs ss stock k) (rvN (prL price ps) cs ss stock k) (lfN cs ss stock k) wr) := hst
    clear hst
    by_cases hlt : k < ss.length
    · have hlt' : (k : Int) < (ss.length : Int) := by omega
      rcases HS.out with h | ⟨b0, o0, ha, hB0, ia⟩
      · rw [h] at hlt; simp at hlt
      have c0 := (ia.below HI.out.pn.bel hB0) k hlt
      obtain ⟨⟨l1, l2⟩, ⟨r1, r2⟩, s1, s2, ⟨t1, t2⟩, m1, m2⟩ := HBd.out k (by have := HSL.out; omega)
      obtain ⟨s, hse⟩ : ∃ s : Nat, ss.getD k 0 = (s : Int) := ⟨(ss.getD k 0).toNat, by omega⟩
      have hkc : k < cs.length := by have := HSL.out; omega
      rw [hse] at t2 m1 m2 c0
      simp only [Int.toNat_natCast] at t2 m1 m2
      have HSd : Hid (sdN cs ss stock k = min ((cs.getD k []).getD s 0) (lfN cs ss stock k)) := by show min (dA cs k (ss.getD k 0)) _ = _; unfold dA; rw [hse]; rfl
      have HRv : Hid (rvN (prL price ps) cs ss stock (k + 1) = rvN (prL price ps) cs ss stock k + sdN cs ss stock k * (prL price ps).getD s 0) := by show _ = _; rw [rvN, hse]; rfl
      have HLf : Hid (lfN cs ss stock (k + 1) = lfN cs ss stock k - sdN cs ss stock k) := rfl
      have HSl : Hid (slN cs ss stock (k + 1) = slN cs ss stock k ++ [sdN cs ss stock k]) := rfl
      have hso := HSo.out k s (lfN cs ss stock k) wr hkc t2 HI.out.pn.bel
      rw [← HSd.out] at hso
      have hlen : (slN cs ss stock k).length = k := slN_len _ _ _ _
      have HPr : Hid (∀ W, Below w.heap.size w W → W.cell? ⟨pb, s, none⟩ = some (.int .i64 ((prL price ps).getD s 0))) := fun W hb => by
        rcases HP.out with h | ⟨b1, o1, hb1, hB1, ib⟩
        · have := HPL.out; rw [h] at this; simp at this; omega
        · cases hb1
          have := (ib.below hb hB1) s (by rw [HPL.out]; exact t2)
          rwa [Nat.zero_add] at this
      rw [ha]
      rw [ha] at HI
      clear ia hse hkc HSd
      generalize sdN cs ss stock k = sd at *
      generalize (prL price ps).getD s 0 = px at *
      generalize hrv : rvN (prL price ps) cs ss stock k = rv at *
      generalize hlf : lfN cs ss stock k = lf at *
      generalize hsll : slN cs ss stock k = L at *
      clear hrv hlf hsll
      obtain rfl : L.length = k := hlen
      have hs' : (s : Int) < (ps.length : Int) := by omega
      have hwm : IntKind.i64.wrap (sd * px) = sd * px := wrap_id _ (by omega) (by omega)
      have hwa : IntKind.i64.wrap (rv + sd * px) = rv + sd * px := hmul _ _ r1 r2 m1 m2
      have hws : IntKind.i64.wrap (lf - sd) = lf - sd := wrap_id _ (by omega) (by omega)
      have x0 := blkCell HI.out.lad 0 _ rfl
      have x1 := blkCell HI.out.lad 1 _ rfl
      have z3 := blkCell HI.out.pn.box 3 _ rfl
      simp only [List.getElem_toArray, List.getElem_cons_zero, List.getElem_cons_succ] at x0 x1 z3
      go_upto_region 6 with (go_at_call 53; refine hso.mono ?_; rintro e w2 ⟨rfl, hb2⟩; have HI2 : Hid (PnS w D P R (.slice (some ⟨pb, 0, none⟩) ps.length pc) (.slice da cs.length dc) (.slice (some ⟨b0, o0, none⟩) ss.length cq) (.slice (some ⟨g, 0, none⟩) L.length cp) L rv lf w2) := HI.out.later hb2; clear hb2)
      clear x0 x1 z3 HI hso c0
      have z1 := blkCell HI2.out.pn.box 1 _ rfl
      simp only [List.getElem_toArray, List.getElem_cons_zero, List.getElem_cons_succ] at z1
      have HW5 : Hid (PnS w D P R (.slice (some ⟨pb, 0, none⟩) ps.length pc) (.slice da cs.length dc) (.slice (some ⟨b0, o0, none⟩) ss.length cq) (.slice (some ⟨g, 0, none⟩) L.length cp) L rv lf (w2.alloc (Obj.cells #[.int .i64 sd] 3))) := HI2.out.later (below_alloc _ _)
      have HNw : Hid (∀ j u, [Value.int .i64 sd][j]? = some u → (w2.alloc (Obj.cells #[.int .i64 sd] 3)).cell? ((⟨w2.heap.size, 0, none⟩ : Addr).add j) = some u) := newsOne w2 (.int .i64 sd) 3
      clear HI2
      have HFz : Hid (∀ g1 cp1 w7, w7.ownsRow w.heap.size 3 1 (.slice (some ⟨g1, 0, none⟩) (L.length + 1) cp1) (L.length + 1) (L.map (Value.int .i64) ++ [.int .i64 sd]) → (w2.alloc (Obj.cells #[.int .i64 sd] 3)).grownBy w7 (Value.ownBlock (.slice (some ⟨g, 0, none⟩) L.length cp)) → (Value.ownBlock (.slice (some ⟨g, 0, none⟩) L.length cp) = some g1 ∨ g1 = (w2.alloc (Obj.cells #[.int .i64 sd] 3)).heap.size) → PnS w D P R (.slice (some ⟨pb, 0, none⟩) ps.length pc) (.slice da cs.length dc) (.slice (some ⟨b0, o0, none⟩) ss.length cq) (.slice (some ⟨g1, 0, none⟩) (L.length + 1) cp1) (L ++ [sd]) rv lf (w7.setCell ⟨P, 1, none⟩ (.slice (some ⟨g1, 0, none⟩) (L.length + 1) cp1)) ∧ w7.cell? ⟨P, 1, none⟩ = some (.slice (some ⟨g, 0, none⟩) L.length cp) ∧ w7.frozen? ⟨P, 1, none⟩ = false) := fun g1 cp1 w7 h1 h2 h3 => by
        have hne : ∀ q, Value.ownBlock (.slice (some ⟨g, 0, none⟩) L.length cp) = some q → q ≠ P ∧ q ≠ R ∧ w.heap.size ≤ q := fun q hq => by
          have := HW5.out.row.2 q hq
          exact ⟨fun e => this (.inr (.inl e)), fun e => this (.inr (.inr e)), (row_lt HW5.out.row.1 q hq).1⟩
        have hx := (HW5.out.pn.grown h2 HW5.out.sz hne).box
        exact ⟨HW5.out.push h1 h2 h3, blkCell hx 1 _ rfl, blkFree hx 1⟩
      go_upto_region 7 with (at_builtin; refine wpList_append_lies _ rfl _ _ 23 rfl w.heap.size 3 i0 (.int .i64 0) 1 8 Try.underlying23 hi hi0 hi1 hi2 rfl (by decide) _ _ _ rfl HW5.out.row.1 ⟨w2.heap.size, 0, none⟩ 1 1 [.int .i64 sd] rfl rfl HNw.out (by intro u hu; simp at hu; rcases hu with rfl; rfl) (by omega) (by unfold maxLen; omega) (by omega) HW5.out.sz _ rfl ?_; intro g1 cp1 w7 hown1 hgrow1 hat1 hglt1; obtain ⟨e1, e2, e3⟩ := HFz.out g1 cp1 w7 hown1 hgrow1 hat1; have HI7 : Hid _ := e1; clear hown1 hgrow1 hat1 e1)
      clear HFz HW5 HNw z1 e2 e3
      obtain ⟨w8, hw8⟩ : ∃ w8, w8 = w7.setCell ⟨P, 1, none⟩ (.slice (some ⟨g1, 0, none⟩) (L.length + 1) cp1) := ⟨_, rfl⟩
      rw [← hw8] at HI7 ⊢
      clear hw8
      have z2 := blkCell HI7.out.pn.box 2 _ rfl
      have f2 := blkFree HI7.out.pn.box 2
      have x0 := blkCell HI7.out.lad 0 _ rfl
      have p0 := HPr.out w8 HI7.out.pn.bel
      simp only [List.getElem_toArray, List.getElem_cons_zero, List.getElem_cons_succ] at z2 x0
      go_wp2_with fail
      go_region
      go_upto_region 8 with fail
      have HI9 : Hid (PnS w D P R (.slice (some ⟨pb, 0, none⟩) ps.length pc) (.slice da cs.length dc) (.slice (some ⟨b0, o0, none⟩) ss.length cq) (.slice (some ⟨g1, 0, none⟩) (L.length + 1) cp1) (L ++ [sd]) (rv + sd * px) lf (w8.setCell ⟨P, 2, none⟩ (.int .i64 (rv + sd * px))).drew) := (HI7.out.put2 _).later (below_drew _)
      obtain ⟨w9, hw9⟩ : ∃ w9, w9 = (w8.setCell ⟨P, 2, none⟩ (.int .i64 (rv + sd * px))).drew := ⟨_, rfl⟩
      rw [← hw9] at HI9 ⊢
      clear hw9 z2 f2 x0 p0 HI7
      have z3 := blkCell HI9.out.pn.box 3 _ rfl
      have f3 := blkFree HI9.out.pn.box 3
      simp only [List.getElem_toArray, List.getElem_cons_zero, List.getElem_cons_succ] at z3
      have HI10 : Hid (PnS w D P R (.slice (some ⟨pb, 0, none⟩) ps.length pc) (.slice da cs.length dc) (.slice (some ⟨b0, o0, none⟩) ss.length cq) (.slice (some ⟨g1, 0, none⟩) (L.length + 1) cp1) (L ++ [sd]) (rv + sd * px) (lf - sd) (w9.setCell ⟨P, 3, none⟩ (.int .i64 (lf - sd)))) := HI9.out.put3 _
      go_wp2_with fail
      exact ⟨⟨L.length + 1, g1, cp1, by omega, by go_num, by rw [HSl.out, HRv.out, HLf.out]; exact HI10.out⟩, by simp [intOf]; omega⟩
    · obtain rfl : k = ss.length := by omega
      have z0 := blkCell HI.out.pn.box 0 _ rfl
      have z1 := blkCell HI.out.pn.box 1 _ rfl
      have z2 := blkCell HI.out.pn.box 2 _ rfl
      have z3 := blkCell HI.out.pn.box 3 _ rfl
      have y0 := blkCell HI.out.pn.res 0 _ rfl
      have y1 := blkCell HI.out.pn.res 1 _ rfl
      have y2 := blkCell HI.out.pn.res 2 _ rfl
      have y3 := blkCell HI.out.pn.res 3 _ rfl
      have f0 := blkFree HI.out.pn.res 0
      have f1 := blkFree HI.out.pn.res 1
      have f2 := blkFree HI.out.pn.res 2
      have f3 := blkFree HI.out.pn.res 3
      simp only [List.getElem_toArray, List.getElem_cons_zero, List.getElem_cons_succ] at z0 z1 z2 z3 y0 y1 y2 y3
      have hR := HI.out.pn.low.2.1
      have HO : Hid (Own2 w.heap.size ((((wr.setCell ⟨R, 0, none⟩ (.slice q ss.length cq)).setCell ⟨R, 1, none⟩ (.slice (some ⟨g, 0, none⟩) ss.length cp)).setCell ⟨R, 2, none⟩ (.int .i64 (rvN (prL price ps) cs ss stock ss.length))).setCell ⟨R, 3, none⟩ (.int .i64 (lfN cs ss stock ss.length))) (some ⟨g, 0, none⟩) (slN cs ss stock ss.length)) :=
        ((((HI.out.row.set (.inr (.inr rfl)) _ _).set (.inr (.inr rfl)) _ _).set (.inr (.inr rfl)) _ _).set (.inr (.inr rfl)) _ _).own2 (slN_len _ _ _ _).symm
      go_wp2_with fail
      refine bodyPost_ret (v := .agg #[.slice q ss.length cq, .slice (some ⟨g, 0, none⟩) ss.length cp, .int .i64 (rvN (prL price ps) cs ss stock ss.length), .int .i64 (lfN cs ss stock ss.length)]) (by simp [results, Try.results33, go_sem, y0, y1, y2, y3]) rfl ⟨g, cp, rfl, HO.out, ?_⟩
      repeat refine Below.setCell ?_ (by dsimp only; omega) _
      exact HI.out.pn.bel
end Go.Proofs.Ytlcnhkhkhlpghaa
