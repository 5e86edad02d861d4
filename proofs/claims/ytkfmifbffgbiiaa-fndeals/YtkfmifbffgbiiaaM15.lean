/-
  Texts of this claim laid together: DrawDlB.
-/
import Derived.Test.YtkfmifbffgbiiaaM14
import Derived.Test.YtkfmifbffgbiiaaM4
import Derived.Deep.AppendLies
/-
  A drawn deal in a box of its own, its articles in a row of their own, beside the deals drawn before it.
-/
namespace Go.Proofs.Ytkfmifbffgbiiaa
open Go.ChangeShapes Go.WideShapes Go.ChangeAt Go.RowKit
set_option linter.unusedVariables false

theorem src_sameD {w w' : World} {b : Nat} {a : Option Addr} {len cap : Nat} {x s : Int} (h : Src w b a len cap x s) (e : w'.heap[b]? = w.heap[b]?) (hz : w.heap.size ≤ w'.heap.size) : Src w' b a len cap x s := by
  obtain ⟨s0, s1, s2, f1, f2, sb, r⟩ := h
  exact ⟨(World.cell?_of_block (w := w) (a := ⟨b, 0, none⟩) e).trans s0, (World.cell?_of_block (w := w) (a := ⟨b, 1, none⟩) e).trans s1, (World.cell?_of_block (w := w) (a := ⟨b, 2, none⟩) e).trans s2, (World.frozen?_of_block (w := w) (a := ⟨b, 1, none⟩) e).trans f1, (World.frozen?_of_block (w := w) (a := ⟨b, 2, none⟩) e).trans f2, Nat.lt_of_lt_of_le sb hz, r⟩
theorem RT.row {B : Nat} {W : World} {g c : Nat} {l : List ByteArray} (h : W.ownsRow B 9 1 (.slice (some ⟨g, 0, none⟩) l.length c) l.length (l.map .string)) : RT B W (some ⟨g, 0, none⟩) l := by
  obtain ⟨cur, hc⟩ := row_type h (q := g) rfl
  refine .inr ⟨g, 0, cur, rfl, (row_lt h g rfl).1, hc, fun j hj => ?_⟩
  have e := h.cellAt j (by omega)
  rw [cell_of_row _ g j cur _ _ hc] at e
  rw [Nat.zero_add, e, List.getElem?_map, List.getElem?_eq_getElem hj]
  simp [List.getD_eq_getElem?_getD, hj]
theorem row_cap' {w : World} {B : Nat} {e : TypeId} {k g n c : Nat} {xs : List Value} (h : w.ownsRow B e k (.slice (some ⟨g, 0, none⟩) n c) n xs) : n ≤ c := by
  rcases h.2 with ⟨q, _⟩ | ⟨g', cap, cur, q, _, _, hc, _⟩
  · simp at q
  · simp only [Value.slice.injEq] at q
    omega
structure DdB (w : World) (b : Nat) (a : Option Addr) (len cap : Nat) (g cp : Nat) (ds : List CDl) (C : List Value) (at' sd : Int) (bb ag ac : Nat) (r : CDl) (wr : World) : Prop where
  st : DdSt w b a len cap (.slice (some ⟨g, 0, none⟩) ds.length cp) ds C at' sd wr
  box : wr.heap[bb]? = some (.cells #[.string r.nm, .int .i64 r.kd, .slice (some ⟨ag, 0, none⟩) r.arts.length ac, .int .i64 r.nd, .int .i64 r.vl, .bool r.on] 39 (0, 0))
  far : bb ≠ g
  gt : b < bb
  arts : wr.ownsRow (b + 1) 9 1 (.slice (some ⟨ag, 0, none⟩) r.arts.length ac) r.arts.length (r.arts.map .string)
/-- The articles of the deals before lie in other blocks. -/
def NoA (ds : List CDl) (C : List Value) (ag : Nat) : Prop := ∀ i, i < ds.length → ∀ h n c, C[i * 6 + 2]? = some (.slice h n c) → (ds.getD i zDl).arts = [] ∨ ∀ q o, h = some ⟨q, o, none⟩ → q ≠ ag
theorem DdSt.noA {w : World} {b : Nat} {a : Option Addr} {len cap : Nat} {v : Value} {ds : List CDl} {C : List Value} {at' sd : Int} {wr : World} (h : DdSt w b a len cap v ds C at' sd wr) : NoA ds C wr.heap.size := fun i hi h' n c hc => by
  obtain ⟨g, c', k0, k1, k2, k3, k4, k5, k6, k7⟩ := h.fit i hi
  rw [k2] at hc
  simp only [Option.some.injEq, Value.slice.injEq] at hc
  obtain ⟨rfl, _, _⟩ := hc
  rcases k7 with k | ⟨q, off, cur, e, hB, hq, _⟩
  · exact .inl k
  · refine .inr fun q' o e' => ?_
    rw [e] at e'
    simp only [Option.some.injEq, Addr.mk.injEq] at e'
    have := blkLt hq
    omega
theorem DdB.ofB {w : World} {b : Nat} {a : Option Addr} {len cap g cp : Nat} {ds : List CDl} {C : List Value} {at' sd at2 sd2 : Int} {bb ag ac : Nat} {nm nm' : ByteArray} {kd nd vl kd' nd' vl' : Int} {l : List ByteArray} {on on' : Bool} {wr w' : World} (h : DdB w b a len cap g cp ds C at' sd bb ag ac ⟨nm, kd, l, nd, vl, on⟩ wr)
    (hz : wr.heap.size ≤ w'.heap.size) (hk : ∀ k, b < k → k < wr.heap.size → k ≠ bb → w'.heap[k]? = wr.heap[k]?) (hbox : w'.heap[bb]? = some (.cells #[.string nm', .int .i64 kd', .slice (some ⟨ag, 0, none⟩) l.length ac, .int .i64 nd', .int .i64 vl', .bool on'] 39 (0, 0))) (hs : Src w' b a len cap at2 sd2) (hl : Below b wr w') :
    DdB w b a len cap g cp ds C at2 sd2 bb ag ac ⟨nm', kd', l, nd', vl', on'⟩ w' := by
  have hty : ∀ (q : Nat) (cur : Array Value), wr.heap[q]? = some (.cells cur 9 (0, 0)) → q ≠ bb := fun q cur hq e => by
    rw [e, h.box] at hq
    simp at hq
  refine ⟨⟨ownsRow_sameP h.st.own (fun k hk' => ?_), fun i hi => ?_, hs, Nat.le_trans h.st.top hz, h.st.low.trans hl, fun k cur h1 h2 => ?_⟩, hbox, h.far, h.gt, ?_⟩
  · have hkg := h.st.own.lt k hk'
    have e : g = k := by simpa [Value.ownBlock] using hk'
    exact hk k (by omega) hkg.2 (by have := h.far; omega)
  · obtain ⟨g', c, k0, k1, k2, k3, k4, k5, k6, k7⟩ := h.st.fit i hi
    exact ⟨g', c, k0, k1, k2, k3, k4, k5, k6, k7.of (fun q cur hB hq => hk q (by omega) (blkLt hq) (hty q cur hq))⟩
  · have h3 := h.st.un k cur h1 h2
    rw [← h3] at h2
    refine Eq.trans ?_ h3
    by_cases hkb : k < b
    · exact hl.block k hkb
    · exact hk k (by omega) (blkLt h2) (fun e => by rw [e, h.box] at h2; simp at h2)
  · refine ownsRow_sameP h.arts (fun k hk' => ?_)
    obtain ⟨cur, hc⟩ := row_type h.arts hk'
    exact hk k (by have := (h.arts.lt k hk').1; omega) (h.arts.lt k hk').2 (hty k cur hc)
theorem DdB.step {w : World} {b : Nat} {a : Option Addr} {len cap g cp : Nat} {ds : List CDl} {C : List Value} {at' sd at2 sd2 : Int} {bb ag ac : Nat} {r : CDl} {wr w' : World} (h : DdB w b a len cap g cp ds C at' sd bb ag ac r wr) (ha : Apart b wr w') (hb : Below b wr w') (hs : Src w' b a len cap at2 sd2) : DdB w b a len cap g cp ds C at2 sd2 bb ag ac r w' :=
  h.ofB ha.1 (fun k h1 h2 _ => ha.2 k (by omega) h2) ((ha.2 bb (by have := h.gt; omega) (blkLt h.box)).trans h.box) hs hb
theorem DdB.set3 {w : World} {b : Nat} {a : Option Addr} {len cap g cp : Nat} {ds : List CDl} {C : List Value} {at' sd : Int} {bb ag ac : Nat} {nm : ByteArray} {kd nd vl : Int} {l : List ByteArray} {on : Bool} {wr : World} (h : DdB w b a len cap g cp ds C at' sd bb ag ac ⟨nm, kd, l, nd, vl, on⟩ wr) (x : Int) : DdB w b a len cap g cp ds C at' sd bb ag ac ⟨nm, kd, l, x, vl, on⟩ (wr.setCell ⟨bb, 3, none⟩ (.int .i64 x)) := by
  have e := heap_setCell_same _ _ 3 _ _ (.int .i64 x) h.box
  simp only [List.setIfInBounds_toArray, List.set_cons_zero, List.set_cons_succ] at e
  exact h.ofB (by simp) (fun k _ _ hk => Below.heap_setCell _ _ _ _ hk) e (src_sameD h.st.src (Below.heap_setCell _ _ _ _ (by have := h.gt; show b ≠ bb; omega)) (by simp)) ((Below.refl _ _).setCell (by have := h.gt; show b ≤ bb; omega) _)
theorem DdB.set4 {w : World} {b : Nat} {a : Option Addr} {len cap g cp : Nat} {ds : List CDl} {C : List Value} {at' sd : Int} {bb ag ac : Nat} {nm : ByteArray} {kd nd vl : Int} {l : List ByteArray} {on : Bool} {wr : World} (h : DdB w b a len cap g cp ds C at' sd bb ag ac ⟨nm, kd, l, nd, vl, on⟩ wr) (x : Int) : DdB w b a len cap g cp ds C at' sd bb ag ac ⟨nm, kd, l, nd, x, on⟩ (wr.setCell ⟨bb, 4, none⟩ (.int .i64 x)) := by
  have e := heap_setCell_same _ _ 4 _ _ (.int .i64 x) h.box
  simp only [List.setIfInBounds_toArray, List.set_cons_zero, List.set_cons_succ] at e
  exact h.ofB (by simp) (fun k _ _ hk => Below.heap_setCell _ _ _ _ hk) e (src_sameD h.st.src (Below.heap_setCell _ _ _ _ (by have := h.gt; show b ≠ bb; omega)) (by simp)) ((Below.refl _ _).setCell (by have := h.gt; show b ≤ bb; omega) _)
theorem DdB.new {w : World} {b : Nat} {a : Option Addr} {len cap g cp : Nat} {ds : List CDl} {C : List Value} {at' sd : Int} {W : World} (h : DdSt w b a len cap (.slice (some ⟨g, 0, none⟩) ds.length cp) ds C at' sd W) (nm q : ByteArray) (kd nd vl : Int) (on : Bool) (W' : World) (e : W' = (W.alloc (Obj.cells #[.string q] 9)).alloc (Obj.cells #[.string nm, .int .i64 kd, .slice (some ⟨W.heap.size, 0, none⟩) 1 1, .int .i64 nd, .int .i64 vl, .bool on] 39)) :
    DdB w b a len cap g cp ds C at' sd (W.heap.size + 1) W.heap.size 1 ⟨nm, kd, [q], nd, vl, on⟩ W' := by
  have ht := h.top
  have hg := (h.own.lt g rfl).2
  have h1 : DdSt w b a len cap (.slice (some ⟨g, 0, none⟩) ds.length cp) ds C at' sd (W.alloc (Obj.cells #[.string q] 9)) := h.later (below_alloc _ _)
  have r1 : (W.alloc (Obj.cells #[.string q] 9)).ownsRow (b + 1) 9 1 (.slice (some ⟨W.heap.size, 0, none⟩) 1 1) 1 [.string q] :=
    ⟨rfl, .inr ⟨W.heap.size, 1, #[.string q], rfl, ht, heapNew W _, Nat.le_refl _, by unfold maxLen; omega, rfl, rfl⟩⟩
  have hz : (W.alloc (Obj.cells #[.string q] 9)).heap.size = W.heap.size + 1 := by simp
  generalize W.alloc (Obj.cells #[.string q] 9) = W1 at *
  subst e
  refine ⟨h1.later (below_alloc _ _), ?_, by omega, by omega, r1.alloc _⟩
  rw [← hz]
  exact heapNew W1 _
theorem DdB.more {w : World} {b : Nat} {a : Option Addr} {len cap g cp : Nat} {ds : List CDl} {C : List Value} {at' sd : Int} {bb ag ac ag2 ac2 : Nat} {nm q x : ByteArray} {kd nd vl : Int} {on : Bool} {W W' : World} {o : Obj} (h : DdB w b a len cap g cp ds C at' sd bb ag ac ⟨nm, kd, [q], nd, vl, on⟩ W) (hno : NoA ds C ag)
    (ho : W'.ownsRow (b + 1) 9 1 (.slice (some ⟨ag2, 0, none⟩) (1 + 1) ac2) (1 + 1) ([.string q] ++ [.string x])) (hg : (W.alloc o).grownBy W' (Value.ownBlock (.slice (some ⟨ag, 0, none⟩) 1 ac))) :
    W'.heap[bb]? = some (.cells #[.string nm, .int .i64 kd, .slice (some ⟨ag, 0, none⟩) 1 ac, .int .i64 nd, .int .i64 vl, .bool on] 39 (0, 0)) ∧
    DdB w b a len cap g cp ds C at' sd bb ag2 ac2 ⟨nm, kd, [q, x], nd, vl, on⟩ (W'.setCell ⟨bb, 2, none⟩ (.slice (some ⟨ag2, 0, none⟩) 2 ac2)) := by
  have hag := h.arts.lt ag rfl
  have hgg := h.st.own.lt g rfl
  have hgt := h.gt
  have hbb := blkLt h.box
  obtain ⟨cur, hc⟩ := row_type h.arts (q := ag) rfl
  obtain ⟨cud, hd⟩ := row_type h.st.own (q := g) rfl
  have n1 : ag ≠ bb := fun e => by rw [e, h.box] at hc; simp at hc
  have n2 : ag ≠ g := fun e => by rw [e, hd] at hc; simp at hc
  have hk : ∀ k, k < W.heap.size → k ≠ ag → W'.heap[k]? = W.heap[k]? := fun k h1 h2 => (hg.block k (by simp; omega) (fun e => h2 (by simpa [Value.ownBlock] using e))).trans (Below.heap_alloc _ _ _ h1)
  have hz : W.heap.size ≤ W'.heap.size := Nat.le_trans (by simp) hg.size
  have hb1 := (hk bb hbb n1.symm).trans h.box
  have hbl : Below b W W' := ((below_alloc W o).mono (by omega)).grown hg (by simp; omega) (fun k e => by
    have e' : ag = k := by simpa [Value.ownBlock] using e
    omega)
  have e := heap_setCell_same _ _ 2 _ _ (.slice (some ⟨ag2, 0, none⟩) 2 ac2) hb1
  simp only [List.setIfInBounds_toArray, List.set_cons_zero, List.set_cons_succ] at e
  obtain ⟨cu2, hc2⟩ := row_type ho (q := ag2) rfl
  have n3 : ag2 ≠ bb := fun e => by rw [e, hb1] at hc2; simp at hc2
  have hk2 : ∀ k, k < W.heap.size → k ≠ ag → k ≠ bb → (W'.setCell ⟨bb, 2, none⟩ (.slice (some ⟨ag2, 0, none⟩) 2 ac2)).heap[k]? = W.heap[k]? := fun k h1 h2 h3 => (Below.heap_setCell _ _ _ _ h3).trans (hk k h1 h2)
  refine ⟨hb1, ⟨⟨ownsRow_sameP h.st.own (fun k hk' => ?_), fun i hi => ?_, ?_, ?_, ?_, fun k cur h1 h2 => ?_⟩, e, h.far, hgt, ?_⟩⟩
  · have e : g = k := by simpa [Value.ownBlock] using hk'
    have := h.far
    exact hk2 k (by omega) (by omega) (by omega)
  · obtain ⟨g', c, k0, k1, k2, k3, k4, k5, k6, k7⟩ := h.st.fit i hi
    refine ⟨g', c, k0, k1, k2, k3, k4, k5, k6, ?_⟩
    rcases hno i hi _ _ _ k2 with hn | hn
    · exact .inl hn
    · rcases k7 with k7 | ⟨q', off, cur', e', hB, hq, hcu⟩
      · exact .inl k7
      · refine .inr ⟨q', off, cur', e', hB, (hk2 q' (blkLt hq) (hn q' off e') (fun e => ?_)).trans hq, hcu⟩
        rw [e, h.box] at hq
        simp at hq
  · exact src_sameD h.st.src (hk2 b h.st.src.2.2.2.2.2.1 (by omega) (by omega)) (by simpa using hz)
  · have := h.st.top; simp; omega
  · exact h.st.low.trans (hbl.setCell (by show b ≤ bb; omega) _)
  · have h3 := h.st.un k cur h1 h2
    rw [← h3] at h2
    exact (hk2 k (blkLt h2) (fun e => by rw [e, hc] at h2; simp at h2) (fun e => by rw [e, h.box] at h2; simp at h2)).trans h3
  · exact ownsRow_sameP ho (fun k hk' => Below.heap_setCell _ _ _ _ (by
      have e : ag2 = k := by simpa [Value.ownBlock] using hk'
      show k ≠ bb; omega))
theorem DdB.push {w : World} {b : Nat} {a : Option Addr} {len cap g cp g2 cp2 : Nat} {ds : List CDl} {C : List Value} {at' sd : Int} {bb ag ac : Nat} {r : CDl} {W W' : World} {o : Obj} (h : DdB w b a len cap g cp ds C at' sd bb ag ac r W)
    (ho : W'.ownsRow (b + 1) 39 6 (.slice (some ⟨g2, 0, none⟩) (ds.length + 1) cp2) (ds.length + 1) (C ++ [.string r.nm, .int .i64 r.kd, .slice (some ⟨ag, 0, none⟩) r.arts.length ac, .int .i64 r.nd, .int .i64 r.vl, .bool r.on])) (hg : (W.alloc o).grownBy W' (Value.ownBlock (.slice (some ⟨g, 0, none⟩) ds.length cp))) :
    DdSt w b a len cap (.slice (some ⟨g2, 0, none⟩) (ds.length + 1) cp2) (ds ++ [r]) (C ++ [.string r.nm, .int .i64 r.kd, .slice (some ⟨ag, 0, none⟩) r.arts.length ac, .int .i64 r.nd, .int .i64 r.vl, .bool r.on]) at' sd W' :=
  (h.st.later (below_alloc _ _)).push ho hg (row_cap' h.arts) (RT.row (h.arts.alloc _))
end Go.Proofs.Ytkfmifbffgbiiaa
