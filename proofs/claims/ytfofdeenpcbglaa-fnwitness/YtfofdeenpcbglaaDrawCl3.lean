/-
  A rule that is being drawn: its block, its terms in a row of their own, the source.
-/
import Derived.Test.YtfofdeenpcbglaaDrawCl2
import Derived.Test.YtfofdeenpcbglaaRwT
import Derived.Test.YtfofdeenpcbglaaDec
namespace Go.Proofs.Ytfofdeenpcbglaa
open Go.ChangeShapes Go.WideShapes Go.ChangeAt Go.RowKit Go.Deep
set_option linter.unusedVariables false

def zCl4 : Obj := .cells #[.string ⟨#[]⟩, .slice none 0 0, .int .i64 0, .int .i64 0] 25 (0, 0)
structure ClSt (b : Nat) (a : Option Addr) (len cap : Nat) (zs : List Int) (B : Nat) (lo hi : Int) (w : World) (cb : Nat) (nm : ByteArray) (ac nu : Int) (v : Value) (ts : List RTm) (W : World) : Prop where
  go : Going b a len cap zs B lo hi w W
  row : W.ownsRow w.heap.size 37 3 v ts.length (tmCells ts)
  res : W.heap[w.heap.size]? = some zCl4
  own : W.heap[cb]? = some (.cells #[.string nm, v, .int .i64 ac, .int .i64 nu] 25 (0, 0))
  ne : v.ownBlock ≠ some w.heap.size ∧ v.ownBlock ≠ some cb
  lt : b < w.heap.size ∧ w.heap.size < cb ∧ B ≤ b
  all : ts.all tmB = true
theorem row_at {w w' : World} {B : Nat} {e : TypeId} {k : Nat} {v : Value} {n : Nat} {xs : List Value} (h : w.ownsRow B e k v n xs) (hb : ∀ q, v.ownBlock = some q → w'.heap[q]? = w.heap[q]?) : w'.ownsRow B e k v n xs := by
  obtain ⟨h1, h2⟩ := h
  refine ⟨h1, ?_⟩
  rcases h2 with h2 | ⟨g, cap, cur, rfl, hB, hg, r⟩
  · exact .inl h2
  · exact .inr ⟨g, cap, cur, rfl, hB, (hb g rfl).trans hg, r⟩
theorem blk_lt {W : World} {k : Nat} {o : Obj} (h : W.heap[k]? = some o) : k < W.heap.size := (Array.getElem?_eq_some_iff.1 h).1
theorem ClSt.draw {b : Nat} {a : Option Addr} {len cap : Nat} {zs : List Int} {B : Nat} {lo hi hi' : Int} {w : World} {cb : Nat} {nm : ByteArray} {ac nu : Int} {v : Value} {ts : List RTm} {W W' : World} (h : ClSt b a len cap zs B lo hi w cb nm ac nu v ts W) (k : Going b a len cap zs B lo hi' W W') : ClSt b a len cap zs B lo hi' w cb nm ac nu v ts W' :=
  ⟨h.go.comp k, row_at h.row (fun q hq => k.2.2.2 q (by have := (h.row.lt q hq).1; have := h.lt; omega) (h.row.lt q hq).2), (k.2.2.2 _ (by have := h.lt; omega) (blk_lt h.res)).trans h.res, (k.2.2.2 _ (by have := h.lt; omega) (blk_lt h.own)).trans h.own, h.ne, h.lt, h.all⟩
theorem ClSt.later {b : Nat} {a : Option Addr} {len cap : Nat} {zs : List Int} {B : Nat} {lo hi : Int} {w : World} {cb : Nat} {nm : ByteArray} {ac nu : Int} {v : Value} {ts : List RTm} {W W' : World} (h : ClSt b a len cap zs B lo hi w cb nm ac nu v ts W) (hb : Below W.heap.size W W') : ClSt b a len cap zs B lo hi w cb nm ac nu v ts W' :=
  h.draw (h.go.self.later (by have := h.go.lt; have := h.lt; omega) hb)
theorem ClSt.push {b : Nat} {a : Option Addr} {len cap : Nat} {zs : List Int} {B : Nat} {lo hi : Int} {w : World} {cb : Nat} {nm : ByteArray} {ac nu : Int} {v : Value} {ts : List RTm} {W W' : World} {g cp : Nat} {t : RTm} (h : ClSt b a len cap zs B lo hi w cb nm ac nu v ts W)
    (ho : W'.ownsRow w.heap.size 37 3 (.slice (some ⟨g, 0, none⟩) (ts.length + 1) cp) (ts.length + 1) (tmCells ts ++ [.int .i64 t.fd, .int .i64 t.op, .int .i64 t.nu])) (hg : W.grownBy W' v.ownBlock) (hat : v.ownBlock = some g ∨ g = W.heap.size) (ht : tmB t = true) :
    ClSt b a len cap zs B lo hi w cb nm ac nu (.slice (some ⟨g, 0, none⟩) (ts.length + 1) cp) (ts ++ [t]) (W'.setCell ⟨cb, 1, none⟩ (.slice (some ⟨g, 0, none⟩) (ts.length + 1) cp)) := by
  have hgne : ∀ k, k < W.heap.size → v.ownBlock ≠ some k → g ≠ k := fun k hk hv e => by
    subst e
    rcases hat with q | q
    · exact hv q
    · omega
  have hcb := blk_lt h.own
  have hrb := blk_lt h.res
  have hset : ∀ k, k ≠ cb → (W'.setCell ⟨cb, 1, none⟩ (.slice (some ⟨g, 0, none⟩) (ts.length + 1) cp)).heap[k]? = W'.heap[k]? := fun k hk => Below.heap_setCell _ _ _ _ hk
  have hg1 := hgne cb hcb h.ne.2
  have hg2 := hgne w.heap.size hrb h.ne.1
  have hbl : b < W.heap.size := h.go.lt
  have hnb : v.ownBlock ≠ some b := fun e => by have := (h.row.lt b e).1; have := h.lt; omega
  have hgo : Going b a len cap zs B lo hi w W' := by
    obtain ⟨⟨at2, q1, q2, ⟨s, hs⟩, hr⟩, q3, q4⟩ := h.go
    have eb := hg.block b hbl (fun e => hnb e.symm)
    obtain ⟨s0, s1, s2, f1, f2, sb, r⟩ := hs
    have hbB : Below B W W' := (Below.refl _ _).grown hg (by have := h.lt; omega) (fun q hq => by have := (h.row.lt q hq).1; have := h.lt; omega)
    refine ⟨⟨at2, q1, q2, ⟨s, (World.cell?_of_block (a := ⟨b, 0, none⟩) eb).trans s0, (World.cell?_of_block (a := ⟨b, 1, none⟩) eb).trans s1, (World.cell?_of_block (a := ⟨b, 2, none⟩) eb).trans s2, (World.frozen?_of_block (a := ⟨b, 1, none⟩) eb).trans f1, (World.frozen?_of_block (a := ⟨b, 2, none⟩) eb).trans f2, Nat.lt_of_lt_of_le sb hg.size, r⟩, hr.below hbB⟩, q3.trans hbB, Nat.le_trans q4.1 hg.size, fun k hk hl => ?_⟩
    exact (hg.block k (Nat.lt_of_lt_of_le hl q4.1) (fun e => by have := (h.row.lt k e.symm).1; omega)).trans (q4.2 k hk hl)
  refine ⟨hgo.set (by have := h.lt; omega) h.lt.2.2 h.lt.1 _ _, ?_, ?_, ?_, ⟨fun e => hg2 (by simpa [Value.ownBlock] using e), fun e => hg1 (by simpa [Value.ownBlock] using e)⟩, h.lt, ?_⟩
  · rw [List.length_append, tmCells_append]
    exact row_at ho (fun q hq => hset q (by cases hq; exact hg1))
  · exact (hset _ (by have := h.lt; omega)).trans ((hg.block _ hrb (fun e => h.ne.1 e.symm)).trans h.res)
  · have e := (hg.block cb hcb (fun e => h.ne.2 e.symm)).trans h.own
    exact heap_setCell_same _ _ 1 _ _ _ e
  · rw [List.all_append, h.all]; simpa using ht
theorem ClSt.cells {b : Nat} {a : Option Addr} {len cap : Nat} {zs : List Int} {B : Nat} {lo hi : Int} {w : World} {cb : Nat} {nm : ByteArray} {ac nu : Int} {v : Value} {ts : List RTm} {W : World} (h : ClSt b a len cap zs B lo hi w cb nm ac nu v ts W) :
    (W.cell? ⟨cb, 0, none⟩ = some (.string nm) ∧ W.cell? ⟨cb, 1, none⟩ = some v ∧ W.cell? ⟨cb, 2, none⟩ = some (.int .i64 ac) ∧ W.cell? ⟨cb, 3, none⟩ = some (.int .i64 nu)) ∧ (W.frozen? ⟨cb, 1, none⟩ = false ∧ W.frozen? ⟨cb, 3, none⟩ = false) ∧ cb < W.heap.size := by
  refine ⟨⟨?_, ?_, ?_, ?_⟩, ⟨?_, ?_⟩, blk_lt h.own⟩
  · unfold World.cell?; rw [h.own]; rfl
  · unfold World.cell?; rw [h.own]; rfl
  · unfold World.cell?; rw [h.own]; rfl
  · unfold World.cell?; rw [h.own]; rfl
  · unfold World.frozen?; rw [h.own]; rfl
  · unfold World.frozen?; rw [h.own]; rfl
theorem nameR (i : Nat) (h : i < 10) : nameB (⟨#[114]⟩ ++ decS i) = true ∧ (⟨#[114]⟩ ++ decS i : ByteArray).size = 2 := by
  unfold decS
  rw [Lib.decDigits_one h]
  rcases (by omega : i = 0 ∨ i = 1 ∨ i = 2 ∨ i = 3 ∨ i = 4 ∨ i = 5 ∨ i = 6 ∨ i = 7 ∨ i = 8 ∨ i = 9) with rfl | rfl | rfl | rfl | rfl | rfl | rfl | rfl | rfl | rfl <;> exact ⟨by decide +kernel, rfl⟩
end Go.Proofs.Ytfofdeenpcbglaa
