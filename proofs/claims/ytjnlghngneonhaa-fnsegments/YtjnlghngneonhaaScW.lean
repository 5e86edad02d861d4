/-
  The scanner of segments in memory: its block, the list, the parts of the segment under way, the bytes of the part under way.
-/
import Derived.Test.YtjnlghngneonhaaScM
import Derived.Test.YtjnlghngneonhaaRowG
namespace Go.Proofs.Ytjnlghngneonhaa
open Go.ChangeShapes Go.WideShapes Go.ChangeAt Go.RowKit Go.Joins Go.Deep
set_option linter.unusedVariables false

/-- A segment and where its parts lie. -/
structure SgE where
  c : CSg
  a : Option Addr
  k : Nat
def SgE.row (e : SgE) : Value := .slice e.a e.c.ps.length e.k
def sgV (E : List SgE) : List Value := (E.map fun e => [Value.string e.c.nm, e.row]).flatten
def strV (ps : List ByteArray) : List Value := ps.map Value.string
def bytV (pt : List Int) : List Value := pt.map (Value.int .u8)
theorem sgV_push (E : List SgE) (e : SgE) : sgV (E ++ [e]) = sgV E ++ [.string e.c.nm, e.row] := by
  unfold sgV; rw [List.map_append, List.flatten_append]; simp
theorem sgV_len (E : List SgE) : (sgV E).length = E.length * 2 := by
  unfold sgV
  induction E with
  | nil => rfl
  | cons e E ih => rw [List.map_cons, List.flatten_cons, List.length_append, ih]; simp; omega
theorem row_base {w : World} {B B' : Nat} {e : TypeId} {k : Nat} {v : Value} {n : Nat} {xs : List Value} (h : w.ownsRow B e k v n xs) (hb : B' ≤ B) : w.ownsRow B' e k v n xs := by
  obtain ⟨h1, h2⟩ := h
  refine ⟨h1, ?_⟩
  rcases h2 with h2 | ⟨g, cap, cur, rfl, hB, hg, r⟩
  · exact .inl h2
  · exact .inr ⟨g, cap, cur, rfl, by omega, hg, r⟩
theorem row_nil (w : World) (B : Nat) (e : TypeId) (k : Nat) : w.ownsRow B e k (.slice none 0 0) 0 [] := ⟨by simp, .inl ⟨rfl, rfl⟩⟩
theorem offBox {w : World} {B sb : Nat} {V : Array Value} {t e : TypeId} {k : Nat} {v : Value} {n : Nat} {xs : List Value} (hb : w.heap[sb]? = some (.cells V t (0, 0))) (h : w.ownsRow B e k v n xs) (hne : t ≠ e) {q : Nat} (hq : v.ownBlock = some q) : q ≠ sb := fun e0 => by
  obtain ⟨cur, hc⟩ := row_type h hq
  rw [e0, hb] at hc
  simp at hc
  exact hne hc.2
theorem offRow {w : World} {B B' : Nat} {e e' : TypeId} {k k' : Nat} {v v' : Value} {n n' : Nat} {xs xs' : List Value} (h : w.ownsRow B e k v n xs) (h' : w.ownsRow B' e' k' v' n' xs') (hne : e ≠ e') {q q' : Nat} (hq : v.ownBlock = some q) (hq' : v'.ownBlock = some q') : q ≠ q' := fun e0 => by
  obtain ⟨cur, hc⟩ := row_type h hq
  obtain ⟨cur', hc'⟩ := row_type h' hq'
  rw [e0, hc'] at hc
  simp at hc
  exact hne hc.2.symm
structure RdI (B sb pb : Nat) (fr : Bool) (t : ByteArray) (pl : Nat) (E : List SgE) (la : Option Addr) (lk : Nat) (tg : ByteArray) (ps : List ByteArray) (pa : Option Addr) (pk : Nat) (pt : List Int) (qa : Option Addr) (qk : Nat) (W : World) : Prop where
  box : W.heap[sb]? = some (.cells #[.string t, .int .i64 (pl : Int), .slice la E.length lk, .string tg, .slice pa ps.length pk, .slice qa pt.length qk] 47 (0, 0))
  rowL : W.ownsRow B 43 2 (.slice la E.length lk) E.length (sgV E)
  rowP : W.ownsRow pb 9 1 (.slice pa ps.length pk) ps.length (strV ps)
  rowQ : W.ownsRow B 5 1 (.slice qa pt.length qk) pt.length (bytV pt)
  old : ∀ e ∈ E, W.ownsRow B 9 1 e.row e.c.ps.length (strV e.c.ps)
  frz : fr = true → ∀ e ∈ E, ∀ q, e.row.ownBlock = some q → q < pb
  dst : E.Pairwise fun e e' => ∀ q, e.row.ownBlock = some q → e'.row.ownBlock ≠ some q
  ge : B ≤ sb ∧ B ≤ pb ∧ pb ≤ W.heap.size
section
variable {B sb pb : Nat} {fr : Bool} {t : ByteArray} {pl : Nat} {E : List SgE} {la : Option Addr} {lk : Nat} {tg : ByteArray} {ps : List ByteArray} {pa : Option Addr} {pk : Nat} {pt : List Int} {qa : Option Addr} {qk : Nat} {W W' : World}
theorem RdI.lt (h : RdI B sb pb fr t pl E la lk tg ps pa pk pt qa qk W) : sb < W.heap.size := blkLt h.box
theorem RdI.pbLe (h : RdI B sb pb fr t pl E la lk tg ps pa pk pt qa qk W) : pb ≤ W.heap.size := h.ge.2.2
theorem RdI.cells (h : RdI B sb pb fr t pl E la lk tg ps pa pk pt qa qk W) : (W.cell? ⟨sb, 0, none⟩ = some (.string t) ∧ W.cell? ⟨sb, 1, none⟩ = some (.int .i64 (pl : Int)) ∧ W.cell? ⟨sb, 2, none⟩ = some (.slice la E.length lk) ∧ W.cell? ⟨sb, 3, none⟩ = some (.string tg)) ∧ (W.cell? ⟨sb, 4, none⟩ = some (.slice pa ps.length pk) ∧ W.cell? ⟨sb, 5, none⟩ = some (.slice qa pt.length qk)) ∧ ∀ j, W.frozen? ⟨sb, j, none⟩ = false :=
  ⟨⟨blkCell h.box 0 _ rfl, blkCell h.box 1 _ rfl, blkCell h.box 2 _ rfl, blkCell h.box 3 _ rfl⟩, ⟨blkCell h.box 4 _ rfl, blkCell h.box 5 _ rfl⟩, fun j => blkFree h.box j⟩
theorem RdI.off (h : RdI B sb pb fr t pl E la lk tg ps pa pk pt qa qk W) : (∀ q, (Value.slice la E.length lk).ownBlock = some q → q ≠ sb) ∧ (∀ q, (Value.slice pa ps.length pk).ownBlock = some q → q ≠ sb) ∧ (∀ q, (Value.slice qa pt.length qk).ownBlock = some q → q ≠ sb) ∧ ∀ e ∈ E, ∀ q, e.row.ownBlock = some q → q ≠ sb :=
  ⟨fun q hq => offBox h.box h.rowL (by decide) hq, fun q hq => offBox h.box h.rowP (by decide) hq, fun q hq => offBox h.box h.rowQ (by decide) hq, fun e he q hq => offBox h.box (h.old e he) (by decide) hq⟩
theorem RdI.later (h : RdI B sb pb fr t pl E la lk tg ps pa pk pt qa qk W) (hb : Below W.heap.size W W') : RdI B sb pb fr t pl E la lk tg ps pa pk pt qa qk W' :=
  ⟨(hb.block sb h.lt).trans h.box, row_of h.rowL (fun q hq => hb.block q (row_lt h.rowL q hq).2), row_of h.rowP (fun q hq => hb.block q (row_lt h.rowP q hq).2), row_of h.rowQ (fun q hq => hb.block q (row_lt h.rowQ q hq).2), fun e he => row_of (h.old e he) (fun q hq => hb.block q (row_lt (h.old e he) q hq).2), h.frz, h.dst, ⟨h.ge.1, h.ge.2.1, Nat.le_trans h.ge.2.2 hb.size⟩⟩
/-- In the scanner's block one cell turns. -/
theorem RdI.put (h : RdI B sb pb fr t pl E la lk tg ps pa pk pt qa qk W) (j : Nat) (v : Value) : (W.setCell ⟨sb, j, none⟩ v).heap[sb]? = some (.cells ((#[.string t, .int .i64 (pl : Int), .slice la E.length lk, .string tg, .slice pa ps.length pk, .slice qa pt.length qk] : Array Value).setIfInBounds j v) 47 (0, 0)) ∧ (∀ k, k ≠ sb → (W.setCell ⟨sb, j, none⟩ v).heap[k]? = W.heap[k]?) ∧ Below B W (W.setCell ⟨sb, j, none⟩ v) :=
  ⟨heap_setCell_same W sb j _ _ v h.box, fun k hk => Below.heap_setCell W ⟨sb, j, none⟩ _ k hk, (Below.refl _ _).setCell (p := ⟨sb, j, none⟩) h.ge.1 _⟩
theorem RdI.setPl (h : RdI B sb pb fr t pl E la lk tg ps pa pk pt qa qk W) (x : Nat) : RdI B sb pb fr t x E la lk tg ps pa pk pt qa qk (W.setCell ⟨sb, 1, none⟩ (.int .i64 (x : Int))) ∧ Below B W (W.setCell ⟨sb, 1, none⟩ (.int .i64 (x : Int))) := by
  obtain ⟨e1, hk, hbl⟩ := h.put 1 (.int .i64 (x : Int))
  obtain ⟨n1, n2, n3, n4⟩ := h.off
  exact ⟨⟨e1, row_of h.rowL (fun q hq => hk q (n1 q hq)), row_of h.rowP (fun q hq => hk q (n2 q hq)), row_of h.rowQ (fun q hq => hk q (n3 q hq)), fun e he => row_of (h.old e he) (fun q hq => hk q (n4 e he q hq)), h.frz, h.dst, ⟨h.ge.1, h.ge.2.1, Nat.le_trans h.ge.2.2 hbl.size⟩⟩, hbl⟩
theorem RdI.clearQ (h : RdI B sb pb fr t pl E la lk tg ps pa pk pt qa qk W) : RdI B sb pb fr t pl E la lk tg ps pa pk [] none 0 (W.setCell ⟨sb, 5, none⟩ (.slice none 0 0)) ∧ Below B W (W.setCell ⟨sb, 5, none⟩ (.slice none 0 0)) := by
  obtain ⟨e1, hk, hbl⟩ := h.put 5 (.slice none 0 0)
  obtain ⟨n1, n2, n3, n4⟩ := h.off
  exact ⟨⟨e1, row_of h.rowL (fun q hq => hk q (n1 q hq)), row_of h.rowP (fun q hq => hk q (n2 q hq)), row_nil _ _ _ _, fun e he => row_of (h.old e he) (fun q hq => hk q (n4 e he q hq)), h.frz, h.dst, ⟨h.ge.1, h.ge.2.1, Nat.le_trans h.ge.2.2 hbl.size⟩⟩, hbl⟩
/-- A tag is read: no parts yet. -/
theorem RdI.setTag (h : RdI B sb pb fr t pl E la lk tg ps pa pk pt qa qk W) (tg' : ByteArray) : RdI B sb W.heap.size true t pl E la lk tg' [] none 0 pt qa qk ((W.setCell ⟨sb, 3, none⟩ (.string tg')).setCell ⟨sb, 4, none⟩ (.slice none 0 0)) ∧ Below B W ((W.setCell ⟨sb, 3, none⟩ (.string tg')).setCell ⟨sb, 4, none⟩ (.slice none 0 0)) := by
  obtain ⟨e1, hk, hbl⟩ := h.put 3 (.string tg')
  obtain ⟨n1, n2, n3, n4⟩ := h.off
  have e2 := heap_setCell_same _ sb 4 _ _ (.slice none 0 0) e1
  have hk2 : ∀ k, k ≠ sb → ((W.setCell ⟨sb, 3, none⟩ (.string tg')).setCell ⟨sb, 4, none⟩ (.slice none 0 0)).heap[k]? = W.heap[k]? := fun k hk' => (Below.heap_setCell _ ⟨sb, 4, none⟩ _ k hk').trans (hk k hk')
  exact ⟨⟨e2, row_of h.rowL (fun q hq => hk2 q (n1 q hq)), row_nil _ _ _ _, row_of h.rowQ (fun q hq => hk2 q (n3 q hq)), fun e he => row_of (h.old e he) (fun q hq => hk2 q (n4 e he q hq)), fun _ e he q hq => (row_lt (h.old e he) q hq).2, h.dst, h.ge.1, by have := h.lt; have := h.ge; omega, by rw [World.size_setCell, World.size_setCell]; exact Nat.le_refl _⟩, hbl.setCell (p := ⟨sb, 4, none⟩) h.ge.1 _⟩
/-- One of the rows grew elsewhere, the scanner's own block and the other rows stay. -/
theorem grownOff {v : Value} (hg : W.grownBy W' v.ownBlock) {e : TypeId} {k : Nat} {b : Nat} {u : Value} {n : Nat} {xs : List Value} (h : W.ownsRow b e k u n xs) (hne : ∀ q, u.ownBlock = some q → v.ownBlock ≠ some q) : W'.ownsRow b e k u n xs :=
  row_of h (fun q hq => hg.block q (row_lt h q hq).2 (fun e0 => hne q hq e0.symm))
theorem RdI.pushQ {g1 c1 : Nat} {x : Int} (h : RdI B sb pb fr t pl E la lk tg ps pa pk pt qa qk W) (hr : W'.ownsRow B 5 1 (.slice (some ⟨g1, 0, none⟩) (pt.length + 1) c1) (pt.length + 1) (bytV pt ++ [.int .u8 x])) (hg : W.grownBy W' (Value.ownBlock (.slice qa pt.length qk))) :
    RdI B sb pb fr t pl E la lk tg ps pa pk (pt ++ [x]) (some ⟨g1, 0, none⟩) c1 (W'.setCell ⟨sb, 5, none⟩ (.slice (some ⟨g1, 0, none⟩) (pt.length + 1) c1)) ∧ Below B W (W'.setCell ⟨sb, 5, none⟩ (.slice (some ⟨g1, 0, none⟩) (pt.length + 1) c1)) := by
  obtain ⟨n1, n2, n3, n4⟩ := h.off
  have hbl0 : Below B W W' := (Below.refl B W).grown hg (by have := h.ge; have := h.lt; omega) (fun q hq => (row_lt h.rowQ q hq).1)
  have e0 : W'.heap[sb]? = W.heap[sb]? := hg.block sb h.lt (fun e => n3 sb e.symm rfl)
  have b1 := heap_setCell_same W' sb 5 _ _ (.slice (some ⟨g1, 0, none⟩) (pt.length + 1) c1) (e0.trans h.box)
  have hk : ∀ k, k ≠ sb → (W'.setCell ⟨sb, 5, none⟩ (.slice (some ⟨g1, 0, none⟩) (pt.length + 1) c1)).heap[k]? = W'.heap[k]? := fun k hk => Below.heap_setCell W' ⟨sb, 5, none⟩ _ k hk
  have hle : (pt ++ [x]).length = pt.length + 1 := by simp
  have hm : bytV (pt ++ [x]) = bytV pt ++ [.int .u8 x] := by unfold bytV; rw [List.map_append]; rfl
  refine ⟨⟨?_, row_of (grownOff hg h.rowL (fun q hq e => offRow h.rowL h.rowQ (by decide) hq e rfl)) (fun q hq => hk q (n1 q hq)), row_of (grownOff hg h.rowP (fun q hq e => offRow h.rowP h.rowQ (by decide) hq e rfl)) (fun q hq => hk q (n2 q hq)), ?_, fun e he => row_of (grownOff hg (h.old e he) (fun q hq e0 => offRow (h.old e he) h.rowQ (by decide) hq e0 rfl)) (fun q hq => hk q (n4 e he q hq)), h.frz, h.dst, ⟨h.ge.1, h.ge.2.1, by rw [World.size_setCell]; exact Nat.le_trans h.ge.2.2 hg.size⟩⟩, hbl0.setCell (p := ⟨sb, 5, none⟩) h.ge.1 _⟩
  · rw [hle]; exact b1
  · rw [hle, hm]; exact row_of hr (fun q hq => hk q (offBox (e0.trans h.box) hr (by decide) hq))
theorem RdI.pushP {g1 c1 : Nat} {x : ByteArray} (h : RdI B sb pb true t pl E la lk tg ps pa pk pt qa qk W) (hr : W'.ownsRow pb 9 1 (.slice (some ⟨g1, 0, none⟩) (ps.length + 1) c1) (ps.length + 1) (strV ps ++ [.string x])) (hg : W.grownBy W' (Value.ownBlock (.slice pa ps.length pk))) :
    RdI B sb pb true t pl E la lk tg (ps ++ [x]) (some ⟨g1, 0, none⟩) c1 pt qa qk (W'.setCell ⟨sb, 4, none⟩ (.slice (some ⟨g1, 0, none⟩) (ps.length + 1) c1)) ∧ Below B W (W'.setCell ⟨sb, 4, none⟩ (.slice (some ⟨g1, 0, none⟩) (ps.length + 1) c1)) := by
  obtain ⟨n1, n2, n3, n4⟩ := h.off
  have hbl0 : Below B W W' := (Below.refl B W).grown hg (by have := h.ge; have := h.lt; omega) (fun q hq => by have := (row_lt h.rowP q hq).1; have := h.ge; omega)
  have e0 : W'.heap[sb]? = W.heap[sb]? := hg.block sb h.lt (fun e => n2 sb e.symm rfl)
  have b1 := heap_setCell_same W' sb 4 _ _ (.slice (some ⟨g1, 0, none⟩) (ps.length + 1) c1) (e0.trans h.box)
  have hk : ∀ k, k ≠ sb → (W'.setCell ⟨sb, 4, none⟩ (.slice (some ⟨g1, 0, none⟩) (ps.length + 1) c1)).heap[k]? = W'.heap[k]? := fun k hk => Below.heap_setCell W' ⟨sb, 4, none⟩ _ k hk
  have hle : (ps ++ [x]).length = ps.length + 1 := by simp
  have hm : strV (ps ++ [x]) = strV ps ++ [.string x] := by unfold strV; rw [List.map_append]; rfl
  refine ⟨⟨?_, row_of (grownOff hg h.rowL (fun q hq e => offRow h.rowL h.rowP (by decide) hq e rfl)) (fun q hq => hk q (n1 q hq)), ?_, row_of (grownOff hg h.rowQ (fun q hq e => offRow h.rowQ h.rowP (by decide) hq e rfl)) (fun q hq => hk q (n3 q hq)), fun e he => row_of (grownOff hg (h.old e he) (fun q hq e0 => ?_)) (fun q hq => hk q (n4 e he q hq)), h.frz, h.dst, ⟨h.ge.1, h.ge.2.1, by rw [World.size_setCell]; exact Nat.le_trans h.ge.2.2 hg.size⟩⟩, hbl0.setCell (p := ⟨sb, 4, none⟩) h.ge.1 _⟩
  · rw [hle]; exact b1
  · rw [hle, hm]; exact row_of hr (fun q hq => hk q (offBox (e0.trans h.box) hr (by decide) hq))
  · have := h.frz rfl e he q hq
    have := (row_lt h.rowP q e0).1
    omega
theorem RdI.pushL {g1 c1 : Nat} (h : RdI B sb pb true t pl E la lk tg ps pa pk pt qa qk W) (hr : W'.ownsRow B 43 2 (.slice (some ⟨g1, 0, none⟩) (E.length + 1) c1) (E.length + 1) (sgV E ++ [.string tg, .slice pa ps.length pk])) (hg : W.grownBy W' (Value.ownBlock (.slice la E.length lk))) :
    RdI B sb pb false t pl (E ++ [⟨⟨tg, ps⟩, pa, pk⟩]) (some ⟨g1, 0, none⟩) c1 tg ps pa pk pt qa qk (W'.setCell ⟨sb, 2, none⟩ (.slice (some ⟨g1, 0, none⟩) (E.length + 1) c1)) ∧ Below B W (W'.setCell ⟨sb, 2, none⟩ (.slice (some ⟨g1, 0, none⟩) (E.length + 1) c1)) := by
  obtain ⟨n1, n2, n3, n4⟩ := h.off
  have hbl0 : Below B W W' := (Below.refl B W).grown hg (by have := h.ge; have := h.lt; omega) (fun q hq => (row_lt h.rowL q hq).1)
  have e0 : W'.heap[sb]? = W.heap[sb]? := hg.block sb h.lt (fun e => n1 sb e.symm rfl)
  have b1 := heap_setCell_same W' sb 2 _ _ (.slice (some ⟨g1, 0, none⟩) (E.length + 1) c1) (e0.trans h.box)
  have hk : ∀ k, k ≠ sb → (W'.setCell ⟨sb, 2, none⟩ (.slice (some ⟨g1, 0, none⟩) (E.length + 1) c1)).heap[k]? = W'.heap[k]? := fun k hk => Below.heap_setCell W' ⟨sb, 2, none⟩ _ k hk
  have hle : (E ++ [(⟨⟨tg, ps⟩, pa, pk⟩ : SgE)]).length = E.length + 1 := by simp
  have rp := row_of (grownOff hg h.rowP (fun q hq e => offRow h.rowP h.rowL (by decide) hq e rfl)) (fun q hq => hk q (n2 q hq))
  refine ⟨⟨?_, ?_, rp, row_of (grownOff hg h.rowQ (fun q hq e => offRow h.rowQ h.rowL (by decide) hq e rfl)) (fun q hq => hk q (n3 q hq)), fun e he => ?_, (fun e => by cases e), ?_, ⟨h.ge.1, h.ge.2.1, by rw [World.size_setCell]; exact Nat.le_trans h.ge.2.2 hg.size⟩⟩, hbl0.setCell (p := ⟨sb, 2, none⟩) h.ge.1 _⟩
  · rw [hle]; exact b1
  · rw [hle, sgV_push]; exact row_of hr (fun q hq => hk q (offBox (e0.trans h.box) hr (by decide) hq))
  · rcases List.mem_append.1 he with he | he
    · exact row_of (grownOff hg (h.old e he) (fun q hq e0 => offRow (h.old e he) h.rowL (by decide) hq e0 rfl)) (fun q hq => hk q (n4 e he q hq))
    · rw [List.mem_singleton] at he
      subst he
      exact row_base rp h.ge.2.1
  · rw [List.pairwise_append]
    refine ⟨h.dst, List.pairwise_singleton _ _, fun e he e' he' q hq hq' => ?_⟩
    rw [List.mem_singleton] at he'
    subst he'
    have := h.frz rfl e he q hq
    have := (row_lt h.rowP q hq').1
    omega
end
end Go.Proofs.Ytjnlghngneonhaa
