/-
  Texts of this claim laid together: RowG, DrawDl.
-/
import Derived.Test.YtkfmifbffgbiiaaM2
import Derived.Deep.AppendLies
import Derived.Laws.OwnMore
import Derived.Test.YtkfmifbffgbiiaaM13
import Derived.Test.YtkfmifbffgbiiaaM4
/-
  Blocks, rows of their own and frames; nothing of the program is in it.
-/
namespace Go.Proofs.Ytkfmifbffgbiiaa
open Go.ChangeShapes Go.WideShapes Go.ChangeAt Go.RowKit Go.Deep
set_option linter.unusedVariables false

theorem blkCell {W : World} {b : Nat} {V : Array Value} {t : TypeId} (h : W.heap[b]? = some (.cells V t (0, 0))) (j : Nat) (v : Value) (hv : V[j]? = some v) : W.cell? ⟨b, j, none⟩ = some v := by
  unfold World.cell?; rw [h]; simpa using hv
theorem blkFree {W : World} {b : Nat} {V : Array Value} {t : TypeId} (h : W.heap[b]? = some (.cells V t (0, 0))) (j : Nat) : W.frozen? ⟨b, j, none⟩ = false := by
  unfold World.frozen?; rw [h]; simp
theorem blkLt {W : World} {b : Nat} {o : Obj} (h : W.heap[b]? = some o) : b < W.heap.size := (Array.getElem?_eq_some_iff.1 h).1
structure Fr (X : Nat → Prop) (w w' : World) : Prop where
  os : w'.os = w.os
  tape : w'.tape = w.tape
  output : w'.output = w.output
  size : w.heap.size ≤ w'.heap.size
  block : ∀ k, k < w.heap.size → ¬ X k → w'.heap[k]? = w.heap[k]?
theorem Fr.refl (X : Nat → Prop) (w : World) : Fr X w w := ⟨rfl, rfl, rfl, Nat.le_refl _, fun _ _ _ => rfl⟩
theorem Fr.trans {X : Nat → Prop} {a b c : World} (h : Fr X a b) (k : Fr X b c) : Fr X a c :=
  ⟨k.os.trans h.os, k.tape.trans h.tape, k.output.trans h.output, Nat.le_trans h.size k.size, fun i hi hx => (k.block i (Nat.lt_of_lt_of_le hi h.size) hx).trans (h.block i hi hx)⟩
theorem Fr.of {X : Nat → Prop} {w w' : World} (h : Below w.heap.size w w') : Fr X w w' := ⟨h.os, h.tape, h.output, h.size, fun k hk _ => h.block k hk⟩
theorem Fr.below {X : Nat → Prop} {B : Nat} {w0 w w' : World} (hb : Below B w0 w) (h : Fr X w w') (hB : B ≤ w.heap.size) (hX : ∀ k, X k → B ≤ k) : Below B w0 w' :=
  hb.trans ⟨h.os, h.tape, h.output, h.size, fun k hk => h.block k (Nat.lt_of_lt_of_le hk hB) (fun hx => by have := hX k hx; omega)⟩
theorem Fr.set {X : Nat → Prop} {w w' : World} (h : Fr X w w') {b : Nat} (hb : X b) (o : Nat) (v : Value) : Fr X w (w'.setCell ⟨b, o, none⟩ v) := by
  have k : Below 0 w' (w'.setCell ⟨b, o, none⟩ v) := (Below.refl 0 w').setCell (Nat.zero_le _) _
  exact ⟨k.os.trans h.os, k.tape.trans h.tape, k.output.trans h.output, Nat.le_trans h.size k.size, fun q hq hx => (Below.heap_setCell _ _ _ _ (fun e => hx (by have e' : q = b := e; rw [e']; exact hb))).trans (h.block q hq hx)⟩
theorem Fr.setNew {X : Nat → Prop} {w w' : World} (h : Fr X w w') {b : Nat} (hb : w.heap.size ≤ b) (o : Nat) (v : Value) : Fr X w (w'.setCell ⟨b, o, none⟩ v) := by
  have k : Below 0 w' (w'.setCell ⟨b, o, none⟩ v) := (Below.refl 0 w').setCell (Nat.zero_le _) _
  exact ⟨k.os.trans h.os, k.tape.trans h.tape, k.output.trans h.output, Nat.le_trans h.size k.size, fun q hq hx => (Below.heap_setCell _ _ _ _ (by show q ≠ b; omega)).trans (h.block q hq hx)⟩
theorem Fr.alloc {X : Nat → Prop} {w w' : World} (h : Fr X w w') (o : Obj) : Fr X w (w'.alloc o) := h.trans (Fr.of (below_alloc _ _))
theorem Fr.mono {X Y : Nat → Prop} {w w' : World} (h : Fr X w w') (hx : ∀ k, X k → Y k) : Fr Y w w' := ⟨h.os, h.tape, h.output, h.size, fun k hk hy => h.block k hk (fun q => hy (hx k q))⟩
theorem Fr.drop {X : Nat → Prop} {b : Nat} {w v w' : World} (hb : Below w.heap.size w v) (h : Fr (fun k => X k ∨ w.heap.size ≤ k) v w') : Fr X w w' :=
  ⟨h.os.trans hb.os, h.tape.trans hb.tape, h.output.trans hb.output, Nat.le_trans hb.size h.size, fun k hk hx => (h.block k (Nat.lt_of_lt_of_le hk hb.size) (fun q => by rcases q with q | q; exact hx q; omega)).trans (hb.block k hk)⟩
theorem row_of {w w' : World} {B : Nat} {e : TypeId} {k : Nat} {v : Value} {n : Nat} {xs : List Value} (h : w.ownsRow B e k v n xs) (hb : ∀ q, v.ownBlock = some q → w'.heap[q]? = w.heap[q]?) : w'.ownsRow B e k v n xs := by
  obtain ⟨h1, h2⟩ := h
  refine ⟨h1, ?_⟩
  rcases h2 with h2 | ⟨g, cap, cur, rfl, hB, hg, r⟩
  · exact .inl h2
  · exact .inr ⟨g, cap, cur, rfl, hB, (hb g rfl).trans hg, r⟩
theorem row_lt {w : World} {B : Nat} {e : TypeId} {k : Nat} {v : Value} {n : Nat} {xs : List Value} (h : w.ownsRow B e k v n xs) (q : Nat) (hq : v.ownBlock = some q) : B ≤ q ∧ q < w.heap.size := h.lt q hq
theorem row_slice {w : World} {B : Nat} {e : TypeId} {k : Nat} {v : Value} {n : Nat} {xs : List Value} (h : w.ownsRow B e k v n xs) : ∃ g cp, v = .slice g n cp := by
  rcases h.2 with ⟨rfl, rfl⟩ | ⟨g, cap, cur, rfl, _⟩
  · exact ⟨_, _, rfl⟩
  · exact ⟨_, _, rfl⟩
theorem row_type {w : World} {B : Nat} {e : TypeId} {k : Nat} {v : Value} {n : Nat} {xs : List Value} (h : w.ownsRow B e k v n xs) {q : Nat} (hq : v.ownBlock = some q) : ∃ cur, w.heap[q]? = some (.cells cur e (0, 0)) := by
  rcases h.2 with ⟨rfl, _⟩ | ⟨g, cap, cur, rfl, _, hg, _⟩
  · cases hq
  · cases hq; exact ⟨cur, hg⟩
theorem row_some {w : World} {B : Nat} {e : TypeId} {k : Nat} {v : Value} {n : Nat} {xs : List Value} (h : w.ownsRow B e k v n xs) (hn : 0 < n) : ∃ g cp, v = .slice (some ⟨g, 0, none⟩) n cp := by
  rcases h.2 with ⟨rfl, rfl⟩ | ⟨g, cap, cur, rfl, _⟩
  · omega
  · exact ⟨g, cap, rfl⟩
theorem fr_grown {w w' : World} {o : Option Nat} (h : w.grownBy w' o) : Fr (fun k => o = some k) w w' :=
  have b : Below 0 w w' := (Below.refl 0 w).grown h (Nat.zero_le _) (fun _ _ => Nat.zero_le _)
  ⟨b.os, b.tape, b.output, b.size, fun k hk hx => h.block k hk (fun e => hx e.symm)⟩
end Go.Proofs.Ytkfmifbffgbiiaa

/-
  Drawn deals in a row of their own: the state of the draws.
-/
namespace Go.Proofs.Ytkfmifbffgbiiaa
open Go.ChangeShapes Go.WideShapes Go.ChangeAt Go.RowKit
set_option linter.unusedVariables false

/-- Texts that lie in a block of texts from block B on. -/
def RT (B : Nat) (W : World) (h : Option Addr) (ss : List ByteArray) : Prop := ss = [] ∨ ∃ q off cur, h = some ⟨q, off, none⟩ ∧ B ≤ q ∧ W.heap[q]? = some (.cells cur 9 (0, 0)) ∧ ∀ j, j < ss.length → cur[off + j]? = some (.string (ss.getD j ByteArray.empty))
theorem RT.of {B : Nat} {W W' : World} {h : Option Addr} {ss : List ByteArray} (k : RT B W h ss) (hk : ∀ (q : Nat) (cur : Array Value), B ≤ q → W.heap[q]? = some (.cells cur 9 (0, 0)) → W'.heap[q]? = W.heap[q]?) : RT B W' h ss := by
  rcases k with k | ⟨q, off, cur, e, hB, hq, hc⟩
  · exact .inl k
  · exact .inr ⟨q, off, cur, e, hB, (hk q cur hB hq).trans hq, hc⟩
theorem RT.reads {B : Nat} {W : World} {h : Option Addr} {ss : List ByteArray} (k : RT B W h ss) : ReadsS W.heap.size W h ss := by
  rcases k with k | ⟨q, off, cur, e, hB, hq, hc⟩
  · exact .inl k
  · refine .inr ⟨q, off, e, blkLt hq, fun j hj => ?_⟩
    exact blkCell hq (off + j) _ (hc j hj)
/-- The source in block b; the deals drawn so far in a row of their own. -/
structure DdSt (w : World) (b : Nat) (a : Option Addr) (len cap : Nat) (v : Value) (ds : List CDl) (C : List Value) (at' sd : Int) (wr : World) : Prop where
  own : wr.ownsRow (b + 1) 39 6 v ds.length C
  fit : ∀ i, i < ds.length → ∃ h c, C[i * 6]? = some (.string (ds.getD i zDl).nm) ∧ C[i * 6 + 1]? = some (.int .i64 (ds.getD i zDl).kd) ∧ C[i * 6 + 2]? = some (.slice h (ds.getD i zDl).arts.length c) ∧ C[i * 6 + 3]? = some (.int .i64 (ds.getD i zDl).nd) ∧ C[i * 6 + 4]? = some (.int .i64 (ds.getD i zDl).vl) ∧ C[i * 6 + 5]? = some (.bool (ds.getD i zDl).on) ∧ (ds.getD i zDl).arts.length ≤ c ∧ RT (b + 1) wr h (ds.getD i zDl).arts
  src : Src wr b a len cap at' sd
  top : b + 1 ≤ wr.heap.size
  low : Below b w wr
  un : ∀ k cur, k ≠ b → w.heap[k]? = some (.cells cur 41 (0, 0)) → wr.heap[k]? = w.heap[k]?
theorem DdSt.step {w : World} {b : Nat} {a : Option Addr} {len cap : Nat} {v : Value} {ds : List CDl} {C : List Value} {at' sd at2 sd2 : Int} {wr w' : World} (h : DdSt w b a len cap v ds C at' sd wr) (ha : Apart b wr w') (hb : Below b wr w') (hs : Src w' b a len cap at2 sd2) : DdSt w b a len cap v ds C at2 sd2 w' := by
  refine ⟨ownsRow_sameP h.own (fun k hk => ha.2 k (by have := (h.own.lt k hk).1; omega) (h.own.lt k hk).2), fun i hi => ?_, hs, Nat.le_trans h.top ha.1, h.low.trans hb, fun k cur h1 h2 => (ha.2 k h1 (blkLt ((h.un k cur h1 h2).trans h2))).trans (h.un k cur h1 h2)⟩
  obtain ⟨g, c, k0, k1, k2, k3, k4, k5, k6, k7⟩ := h.fit i hi
  exact ⟨g, c, k0, k1, k2, k3, k4, k5, k6, k7.of (fun q cur hB hq => ha.2 q (by omega) (blkLt hq))⟩
theorem DdSt.later {w : World} {b : Nat} {a : Option Addr} {len cap : Nat} {v : Value} {ds : List CDl} {C : List Value} {at' sd : Int} {wr w' : World} (h : DdSt w b a len cap v ds C at' sd wr) (hb : Below wr.heap.size wr w') : DdSt w b a len cap v ds C at' sd w' := by
  refine ⟨ownsRow_sameP h.own (fun k hk => hb.block k (h.own.lt k hk).2), fun i hi => ?_, h.src.laterP hb, Nat.le_trans h.top hb.size, h.low.trans (hb.mono (by have := h.top; omega)), fun k cur h1 h2 => (hb.block k (blkLt ((h.un k cur h1 h2).trans h2))).trans (h.un k cur h1 h2)⟩
  obtain ⟨g, c, k0, k1, k2, k3, k4, k5, k6, k7⟩ := h.fit i hi
  exact ⟨g, c, k0, k1, k2, k3, k4, k5, k6, k7.of (fun q cur hB hq => hb.block q (blkLt hq))⟩
theorem DdSt.start {w : World} {b : Nat} {a : Option Addr} {len cap : Nat} {at' sd : Int} (hs : Src w b a len cap at' sd) :
    DdSt w b a len cap (.slice (some ⟨w.heap.size, 0, none⟩) 0 0) [] [] at' sd (w.alloc (Obj.cells #[] 39)) := by
  have hb := hs.2.2.2.2.2.1
  exact ⟨⟨rfl, .inr ⟨w.heap.size, 0, #[], rfl, hb, heapNew w _, Nat.le_refl _, by unfold maxLen; omega, rfl, rfl⟩⟩, fun i hi => by simp at hi, hs.allocT _, by simp; omega, (Below.refl _ _).alloc (by omega) _, fun k cur h1 h2 => Below.heap_alloc _ _ _ (blkLt h2)⟩
theorem DdSt.push {w : World} {b : Nat} {a : Option Addr} {len cap : Nat} {v : Value} {ds : List CDl} {C : List Value} {at' sd : Int} {wr w' : World} {g cp c : Nat} {hh : Option Addr} {r : CDl} (h : DdSt w b a len cap v ds C at' sd wr)
    (ho : w'.ownsRow (b + 1) 39 6 (.slice (some ⟨g, 0, none⟩) (ds.length + 1) cp) (ds.length + 1) (C ++ [.string r.nm, .int .i64 r.kd, .slice hh r.arts.length c, .int .i64 r.nd, .int .i64 r.vl, .bool r.on])) (hg : wr.grownBy w' v.ownBlock) (hc : r.arts.length ≤ c) (hr : RT (b + 1) wr hh r.arts) :
    DdSt w b a len cap (.slice (some ⟨g, 0, none⟩) (ds.length + 1) cp) (ds ++ [r]) (C ++ [.string r.nm, .int .i64 r.kd, .slice hh r.arts.length c, .int .i64 r.nd, .int .i64 r.vl, .bool r.on]) at' sd w' := by
  have hkeep : ∀ h' ss, RT (b + 1) wr h' ss → RT (b + 1) w' h' ss := fun h' ss k => k.of (fun q cur hB hq => hg.block q (blkLt hq) (fun e => by
    obtain ⟨cur2, h2⟩ := row_type h.own e.symm
    rw [h2] at hq
    simp at hq))
  have hC : C.length = ds.length * 6 := h.own.1
  refine ⟨by rw [List.length_append]; exact ho, fun i hi => ?_, h.src.grownP hg (fun k hk => by have := (h.own.lt k hk).1; omega), Nat.le_trans h.top hg.size, h.low.grown hg (by have := h.top; omega) (fun k hk => by have := (h.own.lt k hk).1; omega), fun k cur h1 h2 => (hg.block k (blkLt ((h.un k cur h1 h2).trans h2)) (fun e => by
    obtain ⟨cur2, h3⟩ := row_type h.own e.symm
    rw [(h.un k cur h1 h2).trans h2] at h3
    simp at h3)).trans (h.un k cur h1 h2)⟩
  rw [List.length_append] at hi
  by_cases e : i = ds.length
  · subst e
    rw [show (ds ++ [r]).getD ds.length zDl = r by simp]
    refine ⟨hh, c, ?_, ?_, ?_, ?_, ?_, ?_, hc, hkeep _ _ hr⟩
    · rw [List.getElem?_append_right (by omega), hC, Nat.sub_self]; rfl
    · rw [List.getElem?_append_right (by omega), hC, show ds.length * 6 + 1 - ds.length * 6 = 1 by omega]; rfl
    · rw [List.getElem?_append_right (by omega), hC, show ds.length * 6 + 2 - ds.length * 6 = 2 by omega]; rfl
    · rw [List.getElem?_append_right (by omega), hC, show ds.length * 6 + 3 - ds.length * 6 = 3 by omega]; rfl
    · rw [List.getElem?_append_right (by omega), hC, show ds.length * 6 + 4 - ds.length * 6 = 4 by omega]; rfl
    · rw [List.getElem?_append_right (by omega), hC, show ds.length * 6 + 5 - ds.length * 6 = 5 by omega]; rfl
  · have hi' : i < ds.length := by simp at hi; omega
    obtain ⟨g', c', k0, k1, k2, k3, k4, k5, k6, k7⟩ := h.fit i hi'
    rw [show (ds ++ [r]).getD i zDl = ds.getD i zDl by simp only [List.getD_eq_getElem?_getD]; rw [List.getElem?_append_left hi']]
    exact ⟨g', c', by rw [List.getElem?_append_left (by omega)]; exact k0, by rw [List.getElem?_append_left (by omega)]; exact k1, by rw [List.getElem?_append_left (by omega)]; exact k2, by rw [List.getElem?_append_left (by omega)]; exact k3, by rw [List.getElem?_append_left (by omega)]; exact k4, by rw [List.getElem?_append_left (by omega)]; exact k5, k6, hkeep _ _ k7⟩
theorem DdSt.reads {w : World} {b : Nat} {a : Option Addr} {len cap : Nat} {g cp : Nat} {ds : List CDl} {C : List Value} {at' sd : Int} {wr : World} (h : DdSt w b a len cap (.slice (some ⟨g, 0, none⟩) ds.length cp) ds C at' sd wr) : ReadsDl wr.heap.size wr (some ⟨g, 0, none⟩) ds := by
  refine .inr ⟨g, 0, rfl, (h.own.lt g rfl).2, fun i hi => ?_⟩
  obtain ⟨g', c', k0, k1, k2, k3, k4, k5, k6, k7⟩ := h.fit i hi
  refine ⟨g', c', ⟨?_, ?_, ?_, ?_, ?_, ?_⟩, k6, k7.reads⟩
  · rw [Nat.zero_add, h.own.cellAt _ (by omega)]; exact k0
  · rw [Nat.zero_add, h.own.cellAt _ (by omega)]; exact k1
  · rw [Nat.zero_add, h.own.cellAt _ (by omega)]; exact k2
  · rw [Nat.zero_add, h.own.cellAt _ (by omega)]; exact k3
  · rw [Nat.zero_add, h.own.cellAt _ (by omega)]; exact k4
  · rw [Nat.zero_add, h.own.cellAt _ (by omega)]; exact k5
end Go.Proofs.Ytkfmifbffgbiiaa
