/-
  Numbers that are drawn out of a source of bytes into a row of their own; the specification's SalesOf and TableOf are right sales and tables.
-/
import Derived.Test.YtjnlghngneonhaaQoA
import Derived.Test.YtjnlghngneonhaaRowG
import Derived.Test.YtjnlghngneonhaaSrc
import Derived.Test.YtjnlghngneonhaaSrcApt
import Derived.Test.YtjnlghngneonhaaSrcSize
import Derived.Test.YtjnlghngneonhaaMark0
namespace Go.Proofs.Ytjnlghngneonhaa
open Go.ChangeShapes Go.WideShapes Go.ChangeAt Go.RowKit Go.Deep
set_option linter.unusedVariables false

theorem Src.allocT {w : World} {b : Nat} {a : Option Addr} {len cap : Nat} {x s : Int} (h : Src w b a len cap x s) (o : Obj) : Src (w.alloc o) b a len cap x s := by
  obtain ⟨h0, h1, h2, f1, f2, hb, r⟩ := h
  have hB := below_alloc w o
  exact ⟨(hB.cell (p := ⟨b, 0, none⟩) hb).trans h0, (hB.cell (p := ⟨b, 1, none⟩) hb).trans h1, (hB.cell (p := ⟨b, 2, none⟩) hb).trans h2, (hB.frozen (p := ⟨b, 1, none⟩) hb).trans f1, (hB.frozen (p := ⟨b, 2, none⟩) hb).trans f2, Nat.lt_of_lt_of_le hb hB.size, r⟩
theorem Apt.apart {b : Nat} {w w' : World} (h : Apt b w w') (hb : Below b w w') : Apart b w w' := ⟨hb.size, fun k hk _ => h k hk⟩
theorem Apart.trans {b : Nat} {w w' w'' : World} (h : Apart b w w') (k : Apart b w' w'') : Apart b w w'' := ⟨Nat.le_trans h.1 k.1, fun c hc hl => (k.2 c hc (Nat.lt_of_lt_of_le hl h.1)).trans (h.2 c hc hl)⟩
theorem apart_alloc (b : Nat) (w : World) (o : Obj) : Apart b w (w.alloc o) := ⟨by simp, fun k _ hl => Below.heap_alloc _ _ _ hl⟩
theorem ownsRow_sameW {w w' : World} {B : Nat} {e : TypeId} {size : Nat} {v : Value} {n : Nat} {xs : List Value} (h : w.ownsRow B e size v n xs) (hs : ∀ k, v.ownBlock = some k → w'.heap[k]? = w.heap[k]?) : w'.ownsRow B e size v n xs := by
  obtain ⟨h1, h2⟩ := h
  refine ⟨h1, ?_⟩
  rcases h2 with h2 | ⟨g, cap, cur, e, hB, hg, r⟩
  · exact .inl h2
  · exact .inr ⟨g, cap, cur, e, hB, (hs g (by rw [e]; rfl)).trans hg, r⟩
theorem src_sameW {w w' : World} {b : Nat} {a : Option Addr} {len cap : Nat} {x s : Int} (h : Src w b a len cap x s) (e : w'.heap[b]? = w.heap[b]?) (hz : w.heap.size ≤ w'.heap.size) : Src w' b a len cap x s := by
  obtain ⟨s0, s1, s2, f1, f2, sb, r⟩ := h
  exact ⟨(World.cell?_of_block (w := w) (a := ⟨b, 0, none⟩) e).trans s0, (World.cell?_of_block (w := w) (a := ⟨b, 1, none⟩) e).trans s1, (World.cell?_of_block (w := w) (a := ⟨b, 2, none⟩) e).trans s2, (World.frozen?_of_block (w := w) (a := ⟨b, 1, none⟩) e).trans f1, (World.frozen?_of_block (w := w) (a := ⟨b, 2, none⟩) e).trans f2, Nat.lt_of_lt_of_le sb hz, r⟩
theorem src_ltW {w : World} {b : Nat} {a : Option Addr} {len cap : Nat} {x s : Int} (h : Src w b a len cap x s) : b < w.heap.size := h.2.2.2.2.2.1
theorem later_apart {b : Nat} {w w' : World} (hb : Below w.heap.size w w') : Apart b w w' := ⟨hb.size, fun k _ hl => hb.block k hl⟩
set_option maxHeartbeats 400000 in
theorem next_bigW (B b : Nat) (a : Option Addr) (len cap : Nat) (zs : List Int) (n at' seed : Int) (w : World) (hB : B ≤ b) (hs : Src w b a len cap at' seed) (hr : RowB B w a len zs) (a1 : at' ≤ 999999999000) (h1 : 1 < n) (h2 : 256 < n) (hn : n ≤ 1000000000000) :
    Calls Try.prog 31 #[.pointer (some ⟨b, 0, none⟩), .int .i64 n] w fun e w' => ∃ x at2 s' : Int, e = .returned (.int .i64 x) ∧ Drawn x n ∧ at' ≤ at2 ∧ at2 ≤ at' + 3 ∧ Src w' b a len cap at2 s' ∧ Below B w w' ∧ Apt b w w' := by
  have hbyte := byte_anyA B b a len cap zs at' seed w hB hs hr (by omega)
  have hbyte2 := fun s' w1 (hs1 : Src w1 b a len cap (at' + 1) s') (hb1 : Below B w w1) => byte_anyA B b a len cap zs (at' + 1) s' w1 hB hs1 (hr.below hb1) (by omega)
  have hbyte3 := fun s' w1 (hs1 : Src w1 b a len cap (at' + 1 + 1) s') (hb1 : Below B w w1) => byte_anyA B b a len cap zs (at' + 1 + 1) s' w1 hB hs1 (hr.below hb1) (by omega)
  clear hr
  go_enter Try.func31, Try.ntmps31
  go_wp2_with (first | (go_at_call 48; refine hbyte.mono ?_; rintro e w1 ⟨x, s', rfl, hx0, hx1, hs1, hb1, ha1⟩) | (go_at_call 48; refine (hbyte2 _ _ hs1 hb1).mono ?_; rintro e w2 ⟨y, s2, rfl, hy0, hy1, hs2, hb2, ha2⟩; replace hb2 := hb1.trans hb2; replace ha2 := Apt.trans ha1 ha2) | (go_at_call 48; refine (hbyte3 _ _ hs2 hb2).mono ?_; rintro e w3 ⟨z, s3, rfl, hz0, hz1, hs3, hb3, ha3⟩; replace hb3 := hb2.trans hb3; replace ha3 := Apt.trans ha2 ha3))
  go_ret
  exact ⟨_, _, _, rfl, drawn_mod _ n (by omega) h1, by omega, by omega, hs3, hb3, ha3⟩

/-- The counts drawn so far, in a row behind V's heap. -/
structure FoSt (b : Nat) (a : Option Addr) (len cap : Nat) (V : World) (v : Value) (L : List Int) (at' sd : Int) (wr : World) : Prop where
  ap : Apart b V wr
  low : Below b V wr
  src : Src wr b a len cap at' sd
  row : wr.ownsRow V.heap.size 3 1 v L.length (L.map (.int .i64))
  bv : b < V.heap.size
theorem FoSt.start {b : Nat} {a : Option Addr} {len cap : Nat} {V : World} {at' sd : Int} (hs : Src V b a len cap at' sd) : FoSt b a len cap V (.slice (some ⟨V.heap.size, 0, none⟩) 0 0) [] at' sd (V.alloc (Obj.cells #[] 3)) :=
  ⟨apart_alloc b V _, (Below.refl _ _).alloc (by have := src_ltW hs; omega) _, hs.allocT _, ⟨rfl, .inr ⟨V.heap.size, 0, #[], rfl, Nat.le_refl _, heapNew V _, Nat.le_refl _, by unfold maxLen; omega, rfl, rfl⟩⟩, src_ltW hs⟩
theorem FoSt.step {b : Nat} {a : Option Addr} {len cap : Nat} {V : World} {v : Value} {L : List Int} {at' sd at2 sd2 : Int} {wr w' : World} (h : FoSt b a len cap V v L at' sd wr) (ha : Apart b wr w') (hb : Below b wr w') (hs : Src w' b a len cap at2 sd2) : FoSt b a len cap V v L at2 sd2 w' := by
  have hbv := h.bv
  exact ⟨h.ap.trans ha, h.low.trans hb, hs, ownsRow_sameW h.row (fun k hk => ha.2 k (by have := (h.row.lt k hk).1; omega) (h.row.lt k hk).2), h.bv⟩
theorem FoSt.later {b : Nat} {a : Option Addr} {len cap : Nat} {V : World} {v : Value} {L : List Int} {at' sd : Int} {wr w' : World} (h : FoSt b a len cap V v L at' sd wr) (hb : Below wr.heap.size wr w') : FoSt b a len cap V v L at' sd w' :=
  h.step (later_apart hb) (hb.mono (by have := src_ltW h.src; omega)) (src_sameW h.src (hb.block b (src_ltW h.src)) hb.size)
theorem FoSt.push {b : Nat} {a : Option Addr} {len cap : Nat} {V : World} {v : Value} {L : List Int} {at' sd x : Int} {g c : Nat} {wr w' : World} (h : FoSt b a len cap V v L at' sd wr)
    (ho : w'.ownsRow V.heap.size 3 1 (.slice (some ⟨g, 0, none⟩) (L.length + 1) c) (L.length + 1) (L.map (.int .i64) ++ [.int .i64 x])) (hg : wr.grownBy w' v.ownBlock) : FoSt b a len cap V (.slice (some ⟨g, 0, none⟩) (L.length + 1) c) (L ++ [x]) at' sd w' := by
  have hbv := h.bv
  have hk : ∀ k, k < V.heap.size → w'.heap[k]? = wr.heap[k]? := fun k h1 => hg.block k (by have := h.ap.1; omega) (fun e => by have := (h.row.lt k e.symm).1; omega)
  exact ⟨⟨Nat.le_trans h.ap.1 hg.size, fun k h1 h2 => (hk k h2).trans (h.ap.2 k h1 h2)⟩, h.low.grown hg (by have := h.ap.1; omega) (fun k e => by have := (h.row.lt k e).1; omega), src_sameW h.src (hk b hbv) hg.size, by rw [List.length_append, List.map_append]; exact ho, hbv⟩
theorem FoSt.one {b : Nat} {a : Option Addr} {len cap : Nat} {V : World} {at' sd : Int} (hs : Src V b a len cap at' sd) (x : Int) : FoSt b a len cap V (.slice (some ⟨V.heap.size, 0, none⟩) 1 1) [x] at' sd (V.alloc (Obj.cells #[.int .i64 x] 3)) :=
  ⟨apart_alloc b V _, (Below.refl _ _).alloc (by have := src_ltW hs; omega) _, hs.allocT _, ⟨rfl, .inr ⟨V.heap.size, 1, #[.int .i64 x], rfl, Nat.le_refl _, heapNew V _, Nat.le_refl _, by unfold maxLen; omega, rfl, rfl⟩⟩, src_ltW hs⟩
theorem FoSt.readsL {b : Nat} {a : Option Addr} {len cap : Nat} {V : World} {g n c : Nat} {L : List Int} {at' sd : Int} {wr : World} (h : FoSt b a len cap V (.slice (some ⟨g, 0, none⟩) n c) L at' sd wr) (hn : n = L.length) : Reads wr.heap.size wr (some ⟨g, 0, none⟩) L := by
  subst hn
  exact .inr ⟨g, 0, rfl, (h.row.lt g rfl).2, fun i hi => by rw [Nat.zero_add, h.row.cellAt i (by omega)]; simp [List.getD_eq_getElem?_getD, hi]⟩
theorem FoSt.room {b : Nat} {a : Option Addr} {len cap : Nat} {V : World} {g n c : Nat} {L : List Int} {at' sd : Int} {wr : World} (h : FoSt b a len cap V (.slice (some ⟨g, 0, none⟩) n c) L at' sd wr) (hn : n = L.length) : L.length ≤ c := by
  subst hn
  rcases h.row.2 with ⟨q, _⟩ | ⟨g', c', cur, q, _, _, hc, _⟩
  · simp at q
  · simp only [Value.slice.injEq] at q
    omega
end Go.Proofs.Ytjnlghngneonhaa
