/-
  Texts of this claim laid together: BgS.
-/
import Derived.Test.YtkfmifbffgbiiaaM25
import Derived.Deep.AppendLies
import Derived.Laws.OwnMore
/-
  A bargain that is being built: the struct, its row of uses that grows by append, each use with a list of its own.
-/
namespace Go.Proofs.Ytkfmifbffgbiiaa
open Go.ChangeShapes Go.WideShapes Go.ChangeAt Go.RowKit
set_option linter.unusedVariables false

/-- A use that was told, with the block and the capacity of its list. -/
abbrev EU := CUs × Nat × Nat
def cellsU (e : EU) : List Value := [.int .i64 e.1.dl, .int .i64 e.1.sv, .slice (some ⟨e.2.1, 0, none⟩) e.1.us.length e.2.2]
theorem flat3 : ∀ (E : List EU) (i c : Nat), i < E.length → c < 3 → (E.flatMap cellsU)[i * 3 + c]? = (cellsU (E.getD i (zUs, 0, 0)))[c]?
  | [], i, c, h, _ => by simp at h
  | e :: r, 0, c, _, hc => by
    rw [List.flatMap_cons, Nat.zero_mul, Nat.zero_add, List.getElem?_append_left (by show c < 3; exact hc)]; rfl
  | e :: r, i + 1, c, h, hc => by
    rw [List.flatMap_cons, List.getElem?_append_right (by show 3 ≤ _; omega)]
    have := flat3 r i c (by simpa using h) hc
    have e3 : (cellsU e).length = 3 := rfl
    rw [e3, show (i + 1) * 3 + c - 3 = i * 3 + c by omega, this]; rfl
theorem flat_len : ∀ E : List EU, (E.flatMap cellsU).length = E.length * 3
  | [] => rfl
  | e :: r => by rw [List.flatMap_cons, List.length_append, flat_len r, List.length_cons]; show 3 + _ = _; omega
/-- The row v of the uses E, in blocks from B on, apart from blocks P and R; below B all is as it was. -/
structure RowE (B P R : Nat) (w wr : World) (v : Value) (E : List EU) : Prop where
  row : wr.ownsRow B 36 3 v E.length (E.flatMap cellsU)
  base : B ≤ wr.heap.size
  below : Below B w wr
  own : ∀ q, v.ownBlock = some q → q ≠ P ∧ q ≠ R ∧ ∀ e ∈ E, q ≠ e.2.1
  ins : ∀ e ∈ E, (B ≤ e.2.1 ∧ e.2.1 < wr.heap.size ∧ e.2.1 ≠ P ∧ e.2.1 ≠ R) ∧ e.1.us.length ≤ e.2.2 ∧ IntsAt wr e.2.1 0 e.1.us ∧ FreeAt wr e.2.1 0 e.1.us.length
  apart : E.Pairwise fun a b => a.2.1 ≠ b.2.1
theorem row_of_block {w w' : World} {B : Nat} {e : TypeId} {k : Nat} {v : Value} {n : Nat} {xs : List Value} (h : w.ownsRow B e k v n xs) (hb : ∀ q, v.ownBlock = some q → w'.heap[q]? = w.heap[q]?) : w'.ownsRow B e k v n xs := by
  obtain ⟨h1, h2⟩ := h
  refine ⟨h1, ?_⟩
  rcases h2 with h2 | ⟨g, cap, cur, rfl, hB, hg, r⟩
  · exact .inl h2
  · exact .inr ⟨g, cap, cur, rfl, hB, (hb g rfl).trans hg, r⟩
theorem RowE.later {B P R : Nat} {w wr w' : World} {v : Value} {E : List EU} (h : RowE B P R w wr v E) (hb : Below wr.heap.size wr w') : RowE B P R w w' v E := by
  refine ⟨row_of_block h.row (fun q hq => hb.block q (h.row.lt q hq).2), Nat.le_trans h.base hb.size, h.below.trans (hb.mono h.base), h.own, fun e he => ?_, h.apart⟩
  obtain ⟨⟨k1, k2, k3, k4⟩, k5, k6, k7⟩ := h.ins e he
  exact ⟨⟨k1, Nat.lt_of_lt_of_le k2 hb.size, k3, k4⟩, k5, k6.below hb k2, k7.below hb k2⟩
/-- A store into the struct leaves the row as it was. -/
theorem RowE.setP {B P R : Nat} {w wr : World} {v : Value} {E : List EU} (h : RowE B P R w wr v E) (hP : B ≤ P) (o : Nat) (x : Value) : RowE B P R w (wr.setCell ⟨P, o, none⟩ x) v E := by
  refine ⟨row_of_block h.row (fun q hq => Below.heap_setCell _ _ _ _ (h.own q hq).1), by rw [World.size_setCell]; exact h.base, h.below.setCell hP _, h.own, fun e he => ?_, h.apart⟩
  obtain ⟨⟨k1, k2, k3, k4⟩, k5, k6, k7⟩ := h.ins e he
  exact ⟨⟨k1, by rw [World.size_setCell]; exact k2, k3, k4⟩, k5, intsAt_set k6 (Ne.symm k3) _ _, freeAt_set k7 _ _⟩
theorem RowE.setR {B P R : Nat} {w wr : World} {v : Value} {E : List EU} (h : RowE B P R w wr v E) (hP : B ≤ R) (o : Nat) (x : Value) : RowE B P R w (wr.setCell ⟨R, o, none⟩ x) v E := by
  refine ⟨row_of_block h.row (fun q hq => Below.heap_setCell _ _ _ _ (h.own q hq).2.1), by rw [World.size_setCell]; exact h.base, h.below.setCell hP _, h.own, fun e he => ?_, h.apart⟩
  obtain ⟨⟨k1, k2, k3, k4⟩, k5, k6, k7⟩ := h.ins e he
  exact ⟨⟨k1, by rw [World.size_setCell]; exact k2, k3, k4⟩, k5, intsAt_set k6 (Ne.symm k4) _ _, freeAt_set k7 _ _⟩
/-- One use more, its list in a block of its own that is not among those that were there. -/
theorem RowE.push {B P R : Nat} {w wr w' : World} {v : Value} {E : List EU} {g cp : Nat} {e : EU} (h : RowE B P R w wr v E)
    (ho : w'.ownsRow B 36 3 (.slice (some ⟨g, 0, none⟩) (E.length + 1) cp) (E.length + 1) (E.flatMap cellsU ++ cellsU e)) (hg : wr.grownBy w' v.ownBlock)
    (hat : v.ownBlock = some g ∨ g = wr.heap.size) (hP : P < wr.heap.size) (hR : R < wr.heap.size)
    (he1 : B ≤ e.2.1 ∧ e.2.1 < wr.heap.size ∧ e.2.1 ≠ P ∧ e.2.1 ≠ R) (he2 : e.1.us.length ≤ e.2.2) (he3 : IntsAt wr e.2.1 0 e.1.us) (he4 : FreeAt wr e.2.1 0 e.1.us.length) (he5 : ∀ q, v.ownBlock = some q → q ≠ e.2.1) (he6 : ∀ d ∈ E, d.2.1 ≠ e.2.1) :
    RowE B P R w w' (.slice (some ⟨g, 0, none⟩) (E.length + 1) cp) (E ++ [e]) := by
  have keep : ∀ (d : EU), (∀ q, v.ownBlock = some q → q ≠ d.2.1) → d.2.1 < wr.heap.size → IntsAt wr d.2.1 0 d.1.us → FreeAt wr d.2.1 0 d.1.us.length → IntsAt w' d.2.1 0 d.1.us ∧ FreeAt w' d.2.1 0 d.1.us.length := fun d k1 k2 k3 k4 => by
    have eb := hg.block d.2.1 k2 (fun q => k1 _ q.symm rfl)
    exact ⟨fun i hi => (World.cell?_of_block (w := wr) (a := ⟨d.2.1, 0 + i, none⟩) eb).trans (k3 i hi), fun i hi => (World.frozen?_of_block (w := wr) (a := ⟨d.2.1, 0 + i, none⟩) eb).trans (k4 i hi)⟩
  have gne : ∀ x, x < wr.heap.size → (∀ q, v.ownBlock = some q → q ≠ x) → g ≠ x := fun x hx hq => by
    rcases hat with k | k
    · exact hq g k
    · omega
  refine ⟨?_, Nat.le_trans h.base hg.size, h.below.grown hg h.base (fun q hq => (h.row.lt q hq).1), ?_, ?_, ?_⟩
  · rw [List.length_append, List.flatMap_append]
    simpa using ho
  · intro q hq
    cases hq
    refine ⟨gne P hP (fun q hq => (h.own q hq).1), gne R hR (fun q hq => (h.own q hq).2.1), fun d hd => ?_⟩
    rcases List.mem_append.mp hd with k | k
    · exact gne _ (h.ins d k).1.2.1 (fun q hq => (h.own q hq).2.2 d k)
    · simp at k; subst k
      exact gne _ he1.2.1 he5
  · intro d hd
    rcases List.mem_append.mp hd with k | k
    · obtain ⟨⟨k1, k2, k3, k4⟩, k5, k6, k7⟩ := h.ins d k
      obtain ⟨m1, m2⟩ := keep d (fun q hq => (h.own q hq).2.2 d k) k2 k6 k7
      exact ⟨⟨k1, Nat.lt_of_lt_of_le k2 hg.size, k3, k4⟩, k5, m1, m2⟩
    · simp at k; subst k
      obtain ⟨m1, m2⟩ := keep d he5 he1.2.1 he3 he4
      exact ⟨⟨he1.1, Nat.lt_of_lt_of_le he1.2.1 hg.size, he1.2.2.1, he1.2.2.2⟩, he2, m1, m2⟩
  · rw [List.pairwise_append]
    exact ⟨h.apart, by simp, fun x hx y hy => by simp at hy; subst hy; exact he6 x hx⟩
theorem RowE.cap {B P R : Nat} {w wr : World} {g n cp : Nat} {E : List EU} (h : RowE B P R w wr (.slice (some ⟨g, 0, none⟩) n cp) E) : n ≤ cp := by
  obtain ⟨_, h2⟩ := h.row
  rcases h2 with h2 | ⟨g', cap, cur, e, _, _, hle, _⟩
  · simp at h2
  · simp at e; omega
/-- What was built owns its memory. -/
theorem RowE.ownUs {B P R : Nat} {w wr : World} {a : Option Addr} {n cp : Nat} {E : List EU} (h : RowE B P R w wr (.slice a n cp) E) (hn : n = E.length) : OwnUs B wr a (E.map (·.1)) := by
  subst hn
  by_cases h0 : E.length = 0
  · exact .inl (by rw [List.eq_nil_of_length_eq_zero h0]; rfl)
  obtain ⟨g, cap, he, hB, hlt⟩ := h.row.form (by omega)
  simp at he
  obtain ⟨rfl, rfl⟩ := he
  have hget : ∀ i, i < E.length → E.getD i (zUs, 0, 0) ∈ E := fun i hi => by
    rw [show E.getD i (zUs, 0, 0) = E[i] by simp [List.getD_eq_getElem?_getD, hi]]; exact List.getElem_mem _
  have hmap : ∀ i, i < E.length → (E.map (·.1)).getD i zUs = (E.getD i (zUs, 0, 0)).1 := fun i hi => by simp [List.getD_eq_getElem?_getD, hi]
  refine .inr ⟨g, fun i => (E.getD i (zUs, 0, 0)).2.1, fun i => (E.getD i (zUs, 0, 0)).2.2, rfl, ⟨hB, hlt⟩, fun j hj => h.row.frozenAt j, fun i hi => ?_, fun i j hij hj => ?_⟩
  · rw [List.length_map] at hi
    obtain ⟨⟨k1, k2, k3, k4⟩, k5, k6, k7⟩ := h.ins _ (hget i hi)
    rw [hmap i hi]
    refine ⟨⟨k1, k2, fun q => (h.own g rfl).2.2 _ (hget i hi) q.symm⟩, ⟨?_, ?_, ?_⟩, k5, k6, k7⟩
    · rw [h.row.cellAt (i * 3) (by omega)]; exact flat3 E i 0 hi (by omega)
    · rw [h.row.cellAt (i * 3 + 1) (by omega), flat3 E i 1 hi (by omega)]; rfl
    · rw [h.row.cellAt (i * 3 + 2) (by omega), flat3 E i 2 hi (by omega)]; rfl
  · rw [List.length_map] at hj
    have := List.pairwise_iff_getElem.mp h.apart i j (by omega) hj hij
    simpa [List.getD_eq_getElem?_getD, hj, show i < E.length by omega] using this
def bgF (t s : Int) (v : Value) (j : Nat) : Value := if j = 0 then .int .i64 t else if j = 1 then .int .i64 s else v
theorem bg_new (w : World) (t s : Int) (v : Value) : (w.alloc (Obj.cells #[.int .i64 t, .int .i64 s, v] 29)).rowIs w.heap.size 29 3 (bgF t s v) := by
  refine ⟨_, heapNew _ _, rfl, fun i hi => ?_⟩
  match i, hi with
  | 0, _ => rfl
  | 1, _ => rfl
  | 2, _ => rfl
theorem bg_set0 {w : World} {b : Nat} {t s t' : Int} {v : Value} (h : w.rowIs b 29 3 (bgF t s v)) : (w.setCell ⟨b, 0, none⟩ (.int .i64 t')).rowIs b 29 3 (bgF t' s v) := (h.set 0 _).congr fun j hj => by
  unfold bgF; by_cases e : j = 0
  · rw [if_pos e, if_pos e]
  · rw [if_neg e, if_neg e, if_neg e]
theorem bg_set1 {w : World} {b : Nat} {t s s' : Int} {v : Value} (h : w.rowIs b 29 3 (bgF t s v)) : (w.setCell ⟨b, 1, none⟩ (.int .i64 s')).rowIs b 29 3 (bgF t s' v) := (h.set 1 _).congr fun j hj => by
  unfold bgF; by_cases e : j = 1
  · subst e; rfl
  · rw [if_neg e, if_neg e, if_neg e]
theorem bg_set2 {w : World} {b : Nat} {t s : Int} {v v' : Value} (h : w.rowIs b 29 3 (bgF t s v)) : (w.setCell ⟨b, 2, none⟩ v').rowIs b 29 3 (bgF t s v') := (h.set 2 _).congr fun j hj => by
  unfold bgF; by_cases e : j = 2
  · subst e; rfl
  · rw [if_neg e]
    by_cases e0 : j = 0
    · rw [if_pos e0, if_pos e0]
    · have e1 : j = 1 := by omega
      rw [if_neg e0, if_neg e0, if_pos e1, if_pos e1]
end Go.Proofs.Ytkfmifbffgbiiaa
