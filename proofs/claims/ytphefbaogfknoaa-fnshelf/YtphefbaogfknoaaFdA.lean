/-
  Drawn facings: what each is like, and the state of the draws: the facings drawn so far in a row of their own, the one that is being drawn in a box of its own.
-/
import Derived.Test.YtphefbaogfknoaaFbA
import Derived.Test.YtphefbaogfknoaaDrawTax1
import Derived.Test.YtphefbaogfknoaaDec
import Derived.Test.YtphefbaogfknoaaAppAny
namespace Go.Proofs.Ytphefbaogfknoaa
open Go.ChangeShapes Go.WideShapes Go.ChangeAt Go.RowKit Go.Deep
set_option linter.unusedVariables false

/-- The name of the i-th drawn facing. -/
def fnm (i : Nat) : ByteArray := ⟨#[102]⟩ ++ decS i
theorem fnm_all : diffB ((List.range 7).map fnm) = true := by kernel_rfl
theorem diffN_preF (ss : List ByteArray) (m : Nat) : ∀ k, k ≤ m → diffN (ss.take m) k = diffN ss k
  | 0, _ => rfl
  | k + 1, h => by
    unfold diffN
    rw [diffN_preF ss m k (by omega), show (ss.take m).getD k ByteArray.empty = ss.getD k ByteArray.empty by simp only [List.getD_eq_getElem?_getD]; rw [List.getElem?_take, if_pos (by omega)], List.take_take, show min k m = k by omega]
theorem fnm_diff (n : Nat) (h : n ≤ 7) : diffB ((List.range n).map fnm) = true := by
  have e : (List.range n).map fnm = ((List.range 7).map fnm).take n := by
    rw [← List.map_take, List.take_range, show min n 7 = n by omega]
  rw [e]
  have hA := fnm_all
  unfold diffB at hA ⊢
  rw [List.length_take, diffN_preF _ n _ (by omega)]
  cases q : diffN ((List.range 7).map fnm) (min n ((List.range 7).map fnm).length)
  · rw [diffN_le _ _ _ (by omega) q] at hA; cases hA
  · rfl
theorem fnm_size (i : Nat) (h : i < 7) : (fnm i).size ≤ 2000000 := by
  have h1 := decS_size i
  have h2 : (⟨#[102]⟩ : ByteArray).size = 1 := rfl
  unfold fnm
  rw [ByteArray.size_append, h2]
  omega
/-- What the i-th drawn facing is like. -/
def DrF (i : Nat) (r : CFc) : Prop := r.nm = fnm i ∧ fcOne r = true ∧ FcOK r
theorem drF_of {i : Nat} {wf ls : Int} {gs : List Int} (hi : i < 7) (hw : 5 ≤ wf ∧ wf ≤ 44) (hl : 0 ≤ ls ∧ ls ≤ 1) (hg : 1 ≤ gs.length ∧ gs.length ≤ 4) (hx : ∀ x ∈ gs, 0 ≤ x ∧ x ≤ 89) : DrF i ⟨fnm i, wf, ls, gs⟩ := by
  refine ⟨rfl, ?_, fnm_size i hi, by show gs.length ≤ _; omega⟩
  unfold fcOne gsB inB
  simp only [Bool.and_eq_true, decide_eq_true_eq, List.all_eq_true]
  exact ⟨by omega, by omega, by omega, fun x h => by have := hx x h; omega⟩
theorem fcAll_of {ds : List CFc} (h : ds.length ≤ 7) (hd : ∀ i, i < ds.length → DrF i (ds.getD i zFc)) : fcAll ds = true ∧ ∀ r ∈ ds, FcOK r := by
  have hm : ∀ r ∈ ds, ∃ i, i < ds.length ∧ ds.getD i zFc = r := fun r hr => by
    obtain ⟨i, hi, e⟩ := List.mem_iff_getElem.1 hr
    exact ⟨i, hi, by rw [← e]; simp [List.getD_eq_getElem?_getD, hi]⟩
  have e : ds.map (·.nm) = (List.range ds.length).map fnm := by
    refine List.ext_getElem (by simp) (fun i h1 h2 => ?_)
    have hi : i < ds.length := by simpa using h1
    have := (hd i hi).1
    rw [show ds.getD i zFc = ds[i] by simp [List.getD_eq_getElem?_getD, hi]] at this
    simpa using this
  refine ⟨?_, fun r hr => ?_⟩
  · unfold fcAll
    rw [if_neg (by omega), e, fnm_diff _ h, Bool.true_and, List.all_eq_true]
    intro r hr
    obtain ⟨i, hi, q⟩ := hm r hr
    rw [← q]; exact (hd i hi).2.1
  · obtain ⟨i, hi, q⟩ := hm r hr
    rw [← q]; exact (hd i hi).2.2
theorem drF_push {ds : List CFc} {r : CFc} (h : ∀ i, i < ds.length → DrF i (ds.getD i zFc)) (hr : DrF ds.length r) : ∀ i, i < (ds ++ [r]).length → DrF i ((ds ++ [r]).getD i zFc) := fun i hi => by
  rw [List.length_append] at hi
  by_cases e : i = ds.length
  · subst e
    rw [show (ds ++ [r]).getD ds.length zFc = r by simp]
    exact hr
  · have hi' : i < ds.length := by simp at hi; omega
    rw [show (ds ++ [r]).getD i zFc = ds.getD i zFc by simp only [List.getD_eq_getElem?_getD]; rw [List.getElem?_append_left hi']]
    exact h i hi'
theorem ownsRow_sameW {w w' : World} {B : Nat} {e : TypeId} {size : Nat} {v : Value} {n : Nat} {xs : List Value} (h : w.ownsRow B e size v n xs) (hs : ∀ k, v.ownBlock = some k → w'.heap[k]? = w.heap[k]?) : w'.ownsRow B e size v n xs := by
  obtain ⟨h1, h2⟩ := h
  refine ⟨h1, ?_⟩
  rcases h2 with h2 | ⟨g, cap, cur, e, hB, hg, r⟩
  · exact .inl h2
  · exact .inr ⟨g, cap, cur, e, hB, (hs g (by rw [e]; rfl)).trans hg, r⟩
theorem src_sameW {w w' : World} {b : Nat} {a : Option Addr} {len cap : Nat} {x s : Int} (h : Src w b a len cap x s) (e : w'.heap[b]? = w.heap[b]?) (hz : w.heap.size ≤ w'.heap.size) : Src w' b a len cap x s := by
  obtain ⟨s0, s1, s2, f1, f2, sb, r⟩ := h
  exact ⟨(World.cell?_of_block (w := w) (a := ⟨b, 0, none⟩) e).trans s0, (World.cell?_of_block (w := w) (a := ⟨b, 1, none⟩) e).trans s1, (World.cell?_of_block (w := w) (a := ⟨b, 2, none⟩) e).trans s2, (World.frozen?_of_block (w := w) (a := ⟨b, 1, none⟩) e).trans f1, (World.frozen?_of_block (w := w) (a := ⟨b, 2, none⟩) e).trans f2, Nat.lt_of_lt_of_le sb hz, r⟩
theorem src_ltW {w : World} {b : Nat} {a : Option Addr} {len cap : Nat} {x s : Int} (h : Src w b a len cap x s) : b < w.heap.size := h.2.2.2.2.2.1
/-- Numbers that lie in a block of numbers from block B on. -/
def RI (B : Nat) (W : World) (h : Option Addr) (ns : List Int) : Prop := ns = [] ∨ ∃ q off cur, h = some ⟨q, off, none⟩ ∧ B ≤ q ∧ W.heap[q]? = some (.cells cur 3 (0, 0)) ∧ ∀ j, j < ns.length → cur[off + j]? = some (.int .i64 (ns.getD j 0))
theorem RI.of {B : Nat} {W W' : World} {h : Option Addr} {ns : List Int} (k : RI B W h ns) (hk : ∀ (q : Nat) (cur : Array Value), B ≤ q → W.heap[q]? = some (.cells cur 3 (0, 0)) → W'.heap[q]? = W.heap[q]?) : RI B W' h ns := by
  rcases k with k | ⟨q, off, cur, e, hB, hq, hc⟩
  · exact .inl k
  · exact .inr ⟨q, off, cur, e, hB, (hk q cur hB hq).trans hq, hc⟩
theorem RI.mono {B B' : Nat} {W : World} {h : Option Addr} {ns : List Int} (k : RI B W h ns) (hB : B' ≤ B) : RI B' W h ns := by
  rcases k with k | ⟨q, off, cur, e, hB2, r⟩
  · exact .inl k
  · exact .inr ⟨q, off, cur, e, Nat.le_trans hB hB2, r⟩
theorem RI.reads {B : Nat} {W : World} {h : Option Addr} {ns : List Int} (k : RI B W h ns) : Reads W.heap.size W h ns := by
  rcases k with k | ⟨q, off, cur, e, hB, hq, hc⟩
  · exact .inl k
  · refine .inr ⟨q, off, e, blkLt hq, fun j hj => ?_⟩
    exact blkCell hq (off + j) _ (hc j hj)
theorem RI.row {B : Nat} {W : World} {hv : Option Addr} {c : Nat} {l : List Int} (h : W.ownsRow B 3 1 (.slice hv l.length c) l.length (l.map (.int .i64))) : RI B W hv l := by
  by_cases h0 : l.length = 0
  · exact .inl (List.eq_nil_of_length_eq_zero h0)
  obtain ⟨g, cap, he, hB, hlt⟩ := h.form (by omega)
  simp only [Value.slice.injEq, true_and] at he
  obtain ⟨rfl, rfl⟩ := he
  obtain ⟨cur, hc⟩ := row_type h (q := g) rfl
  refine .inr ⟨g, 0, cur, rfl, hB, hc, fun j hj => ?_⟩
  have e := h.cellAt j (by omega)
  rw [cell_of_row _ g j cur _ _ hc] at e
  rw [Nat.zero_add, e, List.getElem?_map, List.getElem?_eq_getElem hj]
  simp [List.getD_eq_getElem?_getD, hj]
theorem row_capW {w : World} {B : Nat} {e : TypeId} {k n c : Nat} {hv : Option Addr} {xs : List Value} (h : w.ownsRow B e k (.slice hv n c) n xs) (hn : 0 < n) : n ≤ c := by
  rcases h.2 with ⟨_, q⟩ | ⟨g', cap, cur, q, _, _, hc, _⟩
  · omega
  · simp only [Value.slice.injEq] at q
    omega
/-- The source in block b; the facings drawn so far in a row of their own. -/
structure FdSt (w : World) (b : Nat) (a : Option Addr) (len cap : Nat) (v : Value) (ds : List CFc) (C : List Value) (at' sd : Int) (wr : World) : Prop where
  own : wr.ownsRow (b + 1) 51 4 v ds.length C
  fit : ∀ i, i < ds.length → ∃ h c, C[i * 4]? = some (.string (ds.getD i zFc).nm) ∧ C[i * 4 + 1]? = some (.int .i64 (ds.getD i zFc).wd) ∧ C[i * 4 + 2]? = some (.int .i64 (ds.getD i zFc).ls) ∧ C[i * 4 + 3]? = some (.slice h (ds.getD i zFc).gs.length c) ∧ (ds.getD i zFc).gs.length ≤ c ∧ RI (b + 1) wr h (ds.getD i zFc).gs
  src : Src wr b a len cap at' sd
  low : Below b w wr
theorem FdSt.top {w : World} {b : Nat} {a : Option Addr} {len cap : Nat} {v : Value} {ds : List CFc} {C : List Value} {at' sd : Int} {wr : World} (h : FdSt w b a len cap v ds C at' sd wr) : b + 1 ≤ wr.heap.size := src_ltW h.src
theorem FdSt.step {w : World} {b : Nat} {a : Option Addr} {len cap : Nat} {v : Value} {ds : List CFc} {C : List Value} {at' sd at2 sd2 : Int} {wr w' : World} (h : FdSt w b a len cap v ds C at' sd wr) (ha : Apart b wr w') (hb : Below b wr w') (hs : Src w' b a len cap at2 sd2) : FdSt w b a len cap v ds C at2 sd2 w' := by
  refine ⟨ownsRow_sameW h.own (fun k hk => ha.2 k (by have := (h.own.lt k hk).1; omega) (h.own.lt k hk).2), fun i hi => ?_, hs, h.low.trans hb⟩
  obtain ⟨g, c, k0, k1, k2, k3, k4, k5⟩ := h.fit i hi
  exact ⟨g, c, k0, k1, k2, k3, k4, k5.of (fun q cur hB hq => ha.2 q (by omega) (blkLt hq))⟩
theorem later_apart {b : Nat} {w w' : World} (hb : Below w.heap.size w w') : Apart b w w' := ⟨hb.size, fun k _ hl => hb.block k hl⟩
theorem FdSt.later {w : World} {b : Nat} {a : Option Addr} {len cap : Nat} {v : Value} {ds : List CFc} {C : List Value} {at' sd : Int} {wr w' : World} (h : FdSt w b a len cap v ds C at' sd wr) (hb : Below wr.heap.size wr w') : FdSt w b a len cap v ds C at' sd w' :=
  h.step (later_apart hb) (hb.mono (by have := h.top; omega)) (src_sameW h.src (hb.block b (src_ltW h.src)) hb.size)
theorem FdSt.start {w : World} {b : Nat} {a : Option Addr} {len cap : Nat} {at' sd : Int} (hs : Src w b a len cap at' sd) :
    FdSt w b a len cap (.slice (some ⟨w.heap.size, 0, none⟩) 0 0) [] [] at' sd (w.alloc (Obj.cells #[] 51)) := by
  have hb := src_ltW hs
  exact ⟨⟨rfl, .inr ⟨w.heap.size, 0, #[], rfl, hb, heapNew w _, Nat.le_refl _, by unfold maxLen; omega, rfl, rfl⟩⟩, fun i hi => by simp at hi, hs.allocT _, (Below.refl _ _).alloc (by omega) _⟩
theorem FdSt.push {w : World} {b : Nat} {a : Option Addr} {len cap : Nat} {v : Value} {ds : List CFc} {C : List Value} {at' sd : Int} {wr w' : World} {g cp c : Nat} {hh : Option Addr} {r : CFc} (h : FdSt w b a len cap v ds C at' sd wr)
    (ho : w'.ownsRow (b + 1) 51 4 (.slice (some ⟨g, 0, none⟩) (ds.length + 1) cp) (ds.length + 1) (C ++ [.string r.nm, .int .i64 r.wd, .int .i64 r.ls, .slice hh r.gs.length c])) (hg : wr.grownBy w' v.ownBlock) (hc : r.gs.length ≤ c) (hr : RI (b + 1) wr hh r.gs) :
    FdSt w b a len cap (.slice (some ⟨g, 0, none⟩) (ds.length + 1) cp) (ds ++ [r]) (C ++ [.string r.nm, .int .i64 r.wd, .int .i64 r.ls, .slice hh r.gs.length c]) at' sd w' := by
  have hkeep : ∀ h' ss, RI (b + 1) wr h' ss → RI (b + 1) w' h' ss := fun h' ss k => k.of (fun q cur hB hq => hg.block q (blkLt hq) (fun e => by
    obtain ⟨cur2, h2⟩ := row_type h.own e.symm
    rw [h2] at hq
    simp at hq))
  have hC : C.length = ds.length * 4 := h.own.1
  have hbs : w'.heap[b]? = wr.heap[b]? := hg.block b (src_ltW h.src) (fun e => by have := (h.own.lt b e.symm).1; omega)
  refine ⟨by rw [List.length_append]; exact ho, fun i hi => ?_, src_sameW h.src hbs hg.size, h.low.grown hg (by have := h.top; omega) (fun k hk => by have := (h.own.lt k hk).1; omega)⟩
  rw [List.length_append] at hi
  by_cases e : i = ds.length
  · subst e
    rw [show (ds ++ [r]).getD ds.length zFc = r by simp]
    refine ⟨hh, c, ?_, ?_, ?_, ?_, hc, hkeep _ _ hr⟩
    · rw [List.getElem?_append_right (by omega), hC, Nat.sub_self]; rfl
    · rw [List.getElem?_append_right (by omega), hC, show ds.length * 4 + 1 - ds.length * 4 = 1 by omega]; rfl
    · rw [List.getElem?_append_right (by omega), hC, show ds.length * 4 + 2 - ds.length * 4 = 2 by omega]; rfl
    · rw [List.getElem?_append_right (by omega), hC, show ds.length * 4 + 3 - ds.length * 4 = 3 by omega]; rfl
  · have hi' : i < ds.length := by simp at hi; omega
    obtain ⟨g', c', k0, k1, k2, k3, k4, k5⟩ := h.fit i hi'
    rw [show (ds ++ [r]).getD i zFc = ds.getD i zFc by simp only [List.getD_eq_getElem?_getD]; rw [List.getElem?_append_left hi']]
    exact ⟨g', c', by rw [List.getElem?_append_left (by omega)]; exact k0, by rw [List.getElem?_append_left (by omega)]; exact k1, by rw [List.getElem?_append_left (by omega)]; exact k2, by rw [List.getElem?_append_left (by omega)]; exact k3, k4, hkeep _ _ k5⟩
theorem FdSt.reads {w : World} {b : Nat} {a : Option Addr} {len cap : Nat} {g cp : Nat} {ds : List CFc} {C : List Value} {at' sd : Int} {wr : World} (h : FdSt w b a len cap (.slice (some ⟨g, 0, none⟩) ds.length cp) ds C at' sd wr) : ReadsFc wr.heap.size wr (some ⟨g, 0, none⟩) ds := by
  refine .inr ⟨g, 0, rfl, (h.own.lt g rfl).2, fun i hi => ?_⟩
  obtain ⟨g', c', k0, k1, k2, k3, k4, k5⟩ := h.fit i hi
  refine ⟨g', c', ⟨?_, ?_, ?_, ?_⟩, k4, k5.reads⟩
  · rw [Nat.zero_add, h.own.cellAt _ (by omega)]; exact k0
  · rw [Nat.zero_add, h.own.cellAt _ (by omega)]; exact k1
  · rw [Nat.zero_add, h.own.cellAt _ (by omega)]; exact k2
  · rw [Nat.zero_add, h.own.cellAt _ (by omega)]; exact k3
/-- The facing that is being drawn: its box lies where the heap of V ends, its gains behind it. -/
structure FdB (w : World) (b : Nat) (a : Option Addr) (len cap g cp : Nat) (ds : List CFc) (C : List Value) (V : World) (at' sd : Int) (hv : Option Addr) (ac : Nat) (r : CFc) (wr : World) : Prop where
  st0 : ∃ at0 sd0, FdSt w b a len cap (.slice (some ⟨g, 0, none⟩) ds.length cp) ds C at0 sd0 V
  ap : Apart b V wr
  low : Below b V wr
  src : Src wr b a len cap at' sd
  box : wr.heap[V.heap.size]? = some (.cells #[.string r.nm, .int .i64 r.wd, .int .i64 r.ls, .slice hv r.gs.length ac] 51 (0, 0))
  gains : wr.ownsRow (V.heap.size + 1) 3 1 (.slice hv r.gs.length ac) r.gs.length (r.gs.map (.int .i64))
theorem FdB.bv {w : World} {b : Nat} {a : Option Addr} {len cap g cp : Nat} {ds : List CFc} {C : List Value} {V : World} {at' sd : Int} {hv : Option Addr} {ac : Nat} {r : CFc} {wr : World} (h : FdB w b a len cap g cp ds C V at' sd hv ac r wr) : b < V.heap.size := by
  obtain ⟨_, _, k⟩ := h.st0
  exact k.top
theorem FdB.st {w : World} {b : Nat} {a : Option Addr} {len cap g cp : Nat} {ds : List CFc} {C : List Value} {V : World} {at' sd : Int} {hv : Option Addr} {ac : Nat} {r : CFc} {wr : World} (h : FdB w b a len cap g cp ds C V at' sd hv ac r wr) : FdSt w b a len cap (.slice (some ⟨g, 0, none⟩) ds.length cp) ds C at' sd wr := by
  obtain ⟨_, _, k⟩ := h.st0
  exact k.step h.ap h.low h.src
theorem FdB.new {w : World} {b : Nat} {a : Option Addr} {len cap g cp : Nat} {ds : List CFc} {C : List Value} {V : World} {at' sd : Int} (h : FdSt w b a len cap (.slice (some ⟨g, 0, none⟩) ds.length cp) ds C at' sd V) (nm : ByteArray) (wf ls : Int) (W : World) (e : W = V.alloc (Obj.cells #[.string nm, .int .i64 wf, .int .i64 ls, .slice none 0 0] 51)) :
    FdB w b a len cap g cp ds C V at' sd none 0 ⟨nm, wf, ls, []⟩ W := by
  subst e
  exact ⟨⟨_, _, h⟩, apart_alloc b V _, (Below.refl _ _).alloc (by have := h.top; omega) _, h.src.allocT _, heapNew V _, ⟨rfl, .inl ⟨rfl, rfl⟩⟩⟩
theorem FdB.step {w : World} {b : Nat} {a : Option Addr} {len cap g cp : Nat} {ds : List CFc} {C : List Value} {V : World} {at' sd at2 sd2 : Int} {hv : Option Addr} {ac : Nat} {r : CFc} {wr w' : World} (h : FdB w b a len cap g cp ds C V at' sd hv ac r wr) (ha : Apart b wr w') (hb : Below b wr w') (hs : Src w' b a len cap at2 sd2) : FdB w b a len cap g cp ds C V at2 sd2 hv ac r w' := by
  have hbv := h.bv
  exact ⟨h.st0, h.ap.trans ha, h.low.trans hb, hs, (ha.2 _ (by omega) (blkLt h.box)).trans h.box, ownsRow_sameW h.gains (fun k hk => ha.2 k (by have := (h.gains.lt k hk).1; omega) (h.gains.lt k hk).2)⟩
theorem FdB.setLs {w : World} {b : Nat} {a : Option Addr} {len cap g cp : Nat} {ds : List CFc} {C : List Value} {V : World} {at' sd : Int} {hv : Option Addr} {ac : Nat} {nm : ByteArray} {wf ls : Int} {gs : List Int} {wr : World} (h : FdB w b a len cap g cp ds C V at' sd hv ac ⟨nm, wf, ls, gs⟩ wr) (x : Int) : FdB w b a len cap g cp ds C V at' sd hv ac ⟨nm, wf, x, gs⟩ (wr.setCell ⟨V.heap.size, 2, none⟩ (.int .i64 x)) := by
  have hbv := h.bv
  have e := heap_setCell_same _ _ 2 _ _ (.int .i64 x) h.box
  simp only [List.setIfInBounds_toArray, List.set_cons_zero, List.set_cons_succ] at e
  refine ⟨h.st0, ⟨by simpa using h.ap.1, fun k h1 h2 => (Below.heap_setCell _ _ _ _ (by show k ≠ V.heap.size; omega)).trans (h.ap.2 k h1 h2)⟩, h.low.setCell (by show b ≤ V.heap.size; omega) _, src_sameW h.src (Below.heap_setCell _ _ _ _ (by show b ≠ V.heap.size; omega)) (by simp), e, ownsRow_sameW h.gains (fun k hk => Below.heap_setCell _ _ _ _ (by have := (h.gains.lt k hk).1; show k ≠ V.heap.size; omega))⟩
theorem FdB.more {w : World} {b : Nat} {a : Option Addr} {len cap g cp : Nat} {ds : List CFc} {C : List Value} {V : World} {at' sd : Int} {hv h2 : Option Addr} {ac c2 : Nat} {nm : ByteArray} {wf ls x : Int} {gs : List Int} {W W' : World} {o : Obj} (h : FdB w b a len cap g cp ds C V at' sd hv ac ⟨nm, wf, ls, gs⟩ W)
    (ho : W'.ownsRow (V.heap.size + 1) 3 1 (.slice h2 (gs.length + 1) c2) (gs.length + 1) (gs.map (.int .i64) ++ [.int .i64 x])) (hg : (W.alloc o).grownBy W' (Value.ownBlock (.slice hv gs.length ac))) :
    W'.heap[V.heap.size]? = some (.cells #[.string nm, .int .i64 wf, .int .i64 ls, .slice hv gs.length ac] 51 (0, 0)) ∧
    FdB w b a len cap g cp ds C V at' sd h2 c2 ⟨nm, wf, ls, gs ++ [x]⟩ (W'.setCell ⟨V.heap.size, 3, none⟩ (.slice h2 (gs.length + 1) c2)) := by
  have hbv := h.bv
  have hbb := blkLt h.box
  have hk : ∀ k, k < W.heap.size → k ≤ V.heap.size → W'.heap[k]? = W.heap[k]? := fun k h1 h2 => (hg.block k (by simp; omega) (fun e => by have := (h.gains.lt k e.symm).1; omega)).trans (Below.heap_alloc _ _ _ h1)
  have hz : W.heap.size ≤ W'.heap.size := Nat.le_trans (by simp) hg.size
  have hb1 := (hk _ hbb (Nat.le_refl _)).trans h.box
  have hbl : Below b W W' := ((below_alloc W o).mono (by omega)).grown hg (by simp; omega) (fun k e => by have := (h.gains.lt k e).1; omega)
  have e := heap_setCell_same _ _ 3 _ _ (.slice h2 (gs.length + 1) c2) hb1
  simp only [List.setIfInBounds_toArray, List.set_cons_zero, List.set_cons_succ] at e
  have hv1 : ∀ k, k ≠ V.heap.size → (W'.setCell ⟨V.heap.size, 3, none⟩ (.slice h2 (gs.length + 1) c2)).heap[k]? = W'.heap[k]? := fun k h3 => Below.heap_setCell _ _ _ _ h3
  have e1 : (gs ++ [x]).length = gs.length + 1 := by simp
  refine ⟨hb1, ⟨h.st0, ⟨by have := h.ap.1; simp; omega, fun k q1 q2 => (hv1 k (by omega)).trans ((hk k (by omega) (by omega)).trans (h.ap.2 k q1 q2))⟩, (h.low.trans hbl).setCell (by show b ≤ V.heap.size; omega) _, src_sameW h.src ((hv1 b (by omega)).trans (hk b (by omega) (by omega))) (by simpa using hz), ?_, ?_⟩⟩
  · show (W'.setCell ⟨V.heap.size, 3, none⟩ (.slice h2 (gs.length + 1) c2)).heap[V.heap.size]? = some (Obj.cells #[.string nm, .int .i64 wf, .int .i64 ls, .slice h2 (gs ++ [x]).length c2] 51 (0, 0))
    rw [e1]; exact e
  · show World.ownsRow _ _ _ _ (.slice h2 (gs ++ [x]).length c2) (gs ++ [x]).length ((gs ++ [x]).map (.int .i64))
    rw [e1, List.map_append]
    exact ownsRow_sameW ho (fun k hk' => hv1 k (by have := (ho.lt k hk').1; omega))
theorem FdB.push {w : World} {b : Nat} {a : Option Addr} {len cap g cp g2 cp2 : Nat} {ds : List CFc} {C : List Value} {V : World} {at' sd : Int} {hv : Option Addr} {ac : Nat} {r : CFc} {W W' : World} {o : Obj} (h : FdB w b a len cap g cp ds C V at' sd hv ac r W) (hn : 1 ≤ r.gs.length)
    (ho : W'.ownsRow (b + 1) 51 4 (.slice (some ⟨g2, 0, none⟩) (ds.length + 1) cp2) (ds.length + 1) (C ++ [.string r.nm, .int .i64 r.wd, .int .i64 r.ls, .slice hv r.gs.length ac])) (hg : (W.alloc o).grownBy W' (Value.ownBlock (.slice (some ⟨g, 0, none⟩) ds.length cp))) :
    FdSt w b a len cap (.slice (some ⟨g2, 0, none⟩) (ds.length + 1) cp2) (ds ++ [r]) (C ++ [.string r.nm, .int .i64 r.wd, .int .i64 r.ls, .slice hv r.gs.length ac]) at' sd W' :=
  (h.st.later (below_alloc _ _)).push ho hg (row_capW h.gains hn) ((RI.row (h.gains.alloc _)).mono (by have := h.bv; omega))
end Go.Proofs.Ytphefbaogfknoaa
