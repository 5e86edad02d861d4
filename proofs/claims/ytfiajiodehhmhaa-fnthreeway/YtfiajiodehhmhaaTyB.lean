/-
  The specification's drawn lists of lines are right: the contract of DocsOf.
-/
import Derived.Test.YtfiajiodehhmhaaTyA
import Derived.Test.YtfiajiodehhmhaaTwJ
import Derived.Test.YtfiajiodehhmhaaSrc
import Derived.Test.YtfiajiodehhmhaaSrcApt
import Derived.Test.YtfiajiodehhmhaaSrcSize
namespace Go.Proofs.Ytfiajiodehhmhaa
open Go.ChangeShapes Go.WideShapes Go.ChangeAt Go.RowKit Go.Deep
set_option linter.unusedVariables false

theorem chance_ty (B b : Nat) (a : Option Addr) (len cap : Nat) (zs : List Int) (n at' seed : Int) (w : World) (hB : B ≤ b) (hs : Src w b a len cap at' seed) (hr : RowB B w a len zs) (a1 : at' ≤ 1000000) (hn : 1 ≤ n) (hn' : n ≤ 256) :
    Calls Try.prog 44 #[.pointer (some ⟨b, 0, none⟩), .int .i64 n] w fun e w' => ∃ (x : Bool) (at2 s' : Int), e = .returned (.bool x) ∧ at' ≤ at2 ∧ at2 ≤ at' + 3 ∧ Src w' b a len cap at2 s' ∧ Below B w w' ∧ Apt b w w' := by
  have hnx := next_anyA B b a len cap zs n at' seed w hB hs hr (by omega) (by omega)
  go_enter Try.func44, Try.ntmps44
  go_wp2_with (go_at_call 45; refine hnx.mono ?_; rintro e w1 ⟨x, a2, s2, rfl, hx, h1, h2, h3, h4, h5⟩)
  go_ret
  exact ⟨_, a2, s2, rfl, h1, h2, h3, h4, h5⟩
theorem src_sameY {w w' : World} {b : Nat} {a : Option Addr} {len cap : Nat} {x s : Int} (h : Src w b a len cap x s) (e : w'.heap[b]? = w.heap[b]?) (hz : w.heap.size ≤ w'.heap.size) : Src w' b a len cap x s := by
  obtain ⟨s0, s1, s2, f1, f2, sb, r⟩ := h
  exact ⟨(World.cell?_of_block (w := w) (a := ⟨b, 0, none⟩) e).trans s0, (World.cell?_of_block (w := w) (a := ⟨b, 1, none⟩) e).trans s1, (World.cell?_of_block (w := w) (a := ⟨b, 2, none⟩) e).trans s2, (World.frozen?_of_block (w := w) (a := ⟨b, 1, none⟩) e).trans f1, (World.frozen?_of_block (w := w) (a := ⟨b, 2, none⟩) e).trans f2, Nat.lt_of_lt_of_le sb hz, r⟩
def nm4 : List ByteArray := [⟨#[109, 105, 108, 107]⟩, ⟨#[98, 114, 111, 116]⟩, ⟨#[107, 195, 164, 115, 101]⟩, ⟨#[120]⟩]
theorem nm4_ok : ∀ j, j < 4 → nameB (nm4.getD j ByteArray.empty) = true ∧ (nm4.getD j ByteArray.empty).size ≤ 5 := fun j hj => by
  rcases (by omega : j = 0 ∨ j = 1 ∨ j = 2 ∨ j = 3) with rfl | rfl | rfl | rfl <;> decide +kernel
theorem nm4_ne : ∀ i j, i < j → j < 4 → tlB (nm4.getD i ByteArray.empty) ≠ tlB (nm4.getD j ByteArray.empty) := fun i j h hj => by
  rcases (by omega : (i = 0 ∧ j = 1) ∨ (i = 0 ∧ j = 2) ∨ (i = 0 ∧ j = 3) ∨ (i = 1 ∧ j = 2) ∨ (i = 1 ∧ j = 3) ∨ (i = 2 ∧ j = 3)) with ⟨rfl, rfl⟩ | ⟨rfl, rfl⟩ | ⟨rfl, rfl⟩ | ⟨rfl, rfl⟩ | ⟨rfl, rfl⟩ | ⟨rfl, rfl⟩ <;> decide +kernel
/-- What is known of a list while its lines are drawn. -/
structure LiI (i : Nat) (rs : List RDc) : Prop where
  len : rs.length ≤ i
  nod : (rs.map (·.ar)).Nodup
  nam : ∀ r ∈ rs, ∃ j, j < i ∧ r.ar = nm4.getD j ByteArray.empty
  one : ∀ r ∈ rs, dcB r = true
theorem LiI.skip {i : Nat} {rs : List RDc} (h : LiI i rs) : LiI (i + 1) rs := ⟨by have := h.len; omega, h.nod, fun r hr => by obtain ⟨j, h1, h2⟩ := h.nam r hr; exact ⟨j, by omega, h2⟩, h.one⟩
theorem LiI.add {i : Nat} {rs : List RDc} (h : LiI i rs) (hi : i < 4) {un am : Int} (hu : 10 ≤ un ∧ un ≤ 12) (ha : 1000 ≤ am ∧ am ≤ 1200) : LiI (i + 1) (rs ++ [⟨nm4.getD i ByteArray.empty, un, am⟩]) := by
  refine ⟨by have := h.len; simp; omega, ?_, fun r hr => ?_, fun r hr => ?_⟩
  · rw [List.map_append, List.nodup_append]
    refine ⟨h.nod, by simp, fun x hx y hy e => ?_⟩
    simp at hy
    obtain ⟨r, hr, rfl⟩ := List.mem_map.1 hx
    obtain ⟨j, h1, h2⟩ := h.nam r hr
    rw [h2, hy] at e
    exact nm4_ne j i h1 hi (by rw [e, List.getD_eq_getElem?_getD])
  · rcases List.mem_append.1 hr with hr | hr
    · obtain ⟨j, h1, h2⟩ := h.nam r hr; exact ⟨j, by omega, h2⟩
    · simp at hr; subst hr; exact ⟨i, by omega, rfl⟩
  · rcases List.mem_append.1 hr with hr | hr
    · exact h.one r hr
    · simp at hr; subst hr
      unfold dcB inB
      simp only [Bool.and_eq_true, decide_eq_true_eq]
      omega
theorem LiI.right {rs : List RDc} (h : LiI 4 rs) : DcR rs ∧ rs.length ≤ 4 ∧ ∀ r ∈ rs, DcOK r :=
  ⟨⟨by have := h.len; omega, h.nod, fun r hr => by obtain ⟨j, h1, h2⟩ := h.nam r hr; rw [h2]; exact (nm4_ok j h1).1, h.one⟩, h.len, fun r hr => by obtain ⟨j, h1, h2⟩ := h.nam r hr; show r.ar.size ≤ 2000000; rw [h2]; have := (nm4_ok j h1).2; omega⟩
/-- The source in block b; the list being drawn in a row of its own from V's end on; the names in block nb; all that V had stays. -/
structure DcS (w V : World) (b : Nat) (a : Option Addr) (len cap : Nat) (nb : Nat) (v : Value) (rs : List RDc) (at' sd : Int) (wr : World) : Prop where
  row : wr.ownsRow V.heap.size 80 3 v rs.length (dcC rs)
  src : Src wr b a len cap at' sd
  low : Below b w wr
  keep : ∀ k, k < V.heap.size → k ≠ b → wr.heap[k]? = V.heap[k]?
  size : V.heap.size ≤ wr.heap.size
  bV : b < V.heap.size
  nms : wr.heap[nb]? = some (.cells #[.string ⟨#[109, 105, 108, 107]⟩, .string ⟨#[98, 114, 111, 116]⟩, .string ⟨#[107, 195, 164, 115, 101]⟩, .string ⟨#[120]⟩] 9 (0, 0))
  nbV : V.heap.size ≤ nb
section
variable {w V : World} {b : Nat} {a : Option Addr} {len cap nb : Nat} {v : Value} {rs : List RDc} {at' sd at2 sd2 : Int} {wr w' : World}
theorem DcS.draw (h : DcS w V b a len cap nb v rs at' sd wr) (ha : Apt b wr w') (hb : Below b wr w') (hs : Src w' b a len cap at2 sd2) : DcS w V b a len cap nb v rs at2 sd2 w' :=
  ⟨row_of h.row (fun k hk => ha k (by have := (row_lt h.row k hk).1; have := h.bV; omega)), hs, h.low.trans hb, fun k hk hn => (ha k hn).trans (h.keep k hk hn), Nat.le_trans h.size hb.size, h.bV, (ha nb (by have := h.bV; have := h.nbV; omega)).trans h.nms, h.nbV⟩
theorem DcS.later (h : DcS w V b a len cap nb v rs at' sd wr) (hb : Below wr.heap.size wr w') : DcS w V b a len cap nb v rs at' sd w' :=
  ⟨row_of h.row (fun k hk => hb.block k (row_lt h.row k hk).2), src_sameY h.src (hb.block b (Nat.lt_of_lt_of_le h.bV h.size)) hb.size, h.low.trans (hb.mono (by have := h.bV; have := h.size; omega)), fun k hk hn => (hb.block k (Nat.lt_of_lt_of_le hk h.size)).trans (h.keep k hk hn), Nat.le_trans h.size hb.size, h.bV, (hb.block nb (blkLt h.nms)).trans h.nms, h.nbV⟩
theorem DcS.push {g cp : Nat} {r : RDc} (h : DcS w V b a len cap nb v rs at' sd wr) (ho : w'.ownsRow V.heap.size 80 3 (.slice (some ⟨g, 0, none⟩) (rs.length + 1) cp) (rs.length + 1) (dcC rs ++ [.string r.ar, .int .i64 r.un, .int .i64 r.am])) (hg : wr.grownBy w' v.ownBlock) : DcS w V b a len cap nb (.slice (some ⟨g, 0, none⟩) (rs.length + 1) cp) (rs ++ [r]) at' sd w' := by
  have hne : ∀ k, k < V.heap.size → some k ≠ v.ownBlock := fun k hk e => by have := (row_lt h.row k e.symm).1; omega
  refine ⟨?_, src_sameY h.src (hg.block b (Nat.lt_of_lt_of_le h.bV h.size) (hne b h.bV)) hg.size, h.low.grown hg (by have := h.bV; have := h.size; omega) (fun k hk => by have := (row_lt h.row k hk).1; have := h.bV; omega), fun k hk hn => (hg.block k (Nat.lt_of_lt_of_le hk h.size) (hne k hk)).trans (h.keep k hk hn), Nat.le_trans h.size hg.size, h.bV, (hg.block nb (blkLt h.nms) (fun e => ?_)).trans h.nms, h.nbV⟩
  · rw [List.length_append, dcC_app]; exact ho
  · obtain ⟨cur, hc⟩ := row_type h.row e.symm
    rw [h.nms] at hc
    simp at hc
theorem DcS.start (hs : Src V b a len cap at' sd) (hl : Below b w V) : DcS w V b a len cap (V.heap.size + 1) (.slice (some ⟨V.heap.size, 0, none⟩) 0 0) [] at' sd ((V.alloc (Obj.cells #[] 80)).alloc (Obj.cells #[.string ⟨#[109, 105, 108, 107]⟩, .string ⟨#[98, 114, 111, 116]⟩, .string ⟨#[107, 195, 164, 115, 101]⟩, .string ⟨#[120]⟩] 9)) := by
  have hbV : b < V.heap.size := hs.2.2.2.2.2.1
  have hb : Below V.heap.size V ((V.alloc (Obj.cells #[] 80)).alloc (Obj.cells #[.string ⟨#[109, 105, 108, 107]⟩, .string ⟨#[98, 114, 111, 116]⟩, .string ⟨#[107, 195, 164, 115, 101]⟩, .string ⟨#[120]⟩] 9)) := chain (below_alloc _ _) (below_alloc _ _)
  have hn := heapNew (V.alloc (Obj.cells #[] 80)) (Obj.cells #[.string ⟨#[109, 105, 108, 107]⟩, .string ⟨#[98, 114, 111, 116]⟩, .string ⟨#[107, 195, 164, 115, 101]⟩, .string ⟨#[120]⟩] 9)
  rw [World.size_alloc] at hn
  refine ⟨⟨rfl, .inr ⟨V.heap.size, 0, #[], rfl, Nat.le_refl _, (Below.heap_alloc _ _ _ (by simp)).trans (heapNew V _), Nat.le_refl _, by unfold maxLen; omega, rfl, rfl⟩⟩, src_sameY hs (hb.block b hbV) hb.size, hl.trans (hb.mono (by omega)), fun k hk _ => hb.block k hk, hb.size, hbV, hn, by omega⟩
theorem DcS.nm (h : DcS w V b a len cap nb v rs at' sd wr) {j : Nat} (hj : j < 4) : wr.cell? ⟨nb, j, none⟩ = some (.string (nm4.getD j ByteArray.empty)) := by
  rcases (by omega : j = 0 ∨ j = 1 ∨ j = 2 ∨ j = 3) with rfl | rfl | rfl | rfl
  · exact blkCell h.nms 0 _ rfl
  · exact blkCell h.nms 1 _ rfl
  · exact blkCell h.nms 2 _ rfl
  · exact blkCell h.nms 3 _ rfl
end
/-- The source; the lists so far in a row of slices. -/
structure DoS (w : World) (b : Nat) (a : Option Addr) (len cap : Nat) (v : Value) (Ls : List (Nat × Nat × List RDc)) (at' sd : Int) (wr : World) : Prop where
  row : wr.ownsRow (b + 1) 31 1 v Ls.length (Ls.map fun e => Value.slice (some ⟨e.1, 0, none⟩) e.2.2.length e.2.1)
  ents : ∀ e ∈ Ls, wr.ownsRow (b + 1) 80 3 (.slice (some ⟨e.1, 0, none⟩) e.2.2.length e.2.1) e.2.2.length (dcC e.2.2)
  good : ∀ e ∈ Ls, LiI 4 e.2.2
  src : Src wr b a len cap at' sd
  low : Below b w wr
section
variable {w V : World} {b : Nat} {a : Option Addr} {len cap nb : Nat} {v : Value} {Ls : List (Nat × Nat × List RDc)} {rs : List RDc} {at' sd at2 sd2 : Int} {wr w' : World}
theorem DoS.start {w1 : World} (hs : Src w1 b a len cap at' sd) (hl : Below b w w1) : DoS w b a len cap (.slice (some ⟨w1.heap.size, 0, none⟩) 0 0) [] at' sd (w1.alloc (Obj.cells #[] 31)) := by
  have hb : b < w1.heap.size := hs.2.2.2.2.2.1
  exact ⟨⟨rfl, .inr ⟨w1.heap.size, 0, #[], rfl, hb, heapNew w1 _, Nat.le_refl _, by unfold maxLen; omega, rfl, rfl⟩⟩, fun e he => by simp at he, fun e he => by simp at he, src_sameY hs (Below.heap_alloc _ _ _ hb) (by simp), hl.alloc (by omega) _⟩
theorem DoS.laterY (h : DoS w b a len cap v Ls at' sd wr) (hb : Below wr.heap.size wr w') : DoS w b a len cap v Ls at' sd w' :=
  ⟨row_of h.row (fun q hq => hb.block q (row_lt h.row q hq).2), fun e he => row_of (h.ents e he) (fun q hq => hb.block q (row_lt (h.ents e he) q hq).2), h.good, src_sameY h.src (hb.block b h.src.2.2.2.2.2.1) hb.size, h.low.trans (hb.mono (Nat.le_of_lt h.src.2.2.2.2.2.1))⟩
/-- Behind a list that was drawn all older ones are as they were. -/
theorem DoS.after (h : DoS w b a len cap v Ls at' sd V) {u : Value} (k : DcS w V b a len cap nb u rs at2 sd2 wr) : DoS w b a len cap v Ls at2 sd2 wr :=
  ⟨row_of h.row (fun q hq => k.keep q (row_lt h.row q hq).2 (by have := (row_lt h.row q hq).1; omega)), fun e he => row_of (h.ents e he) (fun q hq => k.keep q (row_lt (h.ents e he) q hq).2 (by have := (row_lt (h.ents e he) q hq).1; omega)), h.good, k.src, k.low⟩
theorem DoS.push {g cp g0 c0 : Nat} (h : DoS w b a len cap v Ls at' sd wr) (hx : wr.ownsRow (b + 1) 80 3 (.slice (some ⟨g, 0, none⟩) rs.length cp) rs.length (dcC rs)) (hg4 : LiI 4 rs)
    (ho : w'.ownsRow (b + 1) 31 1 (.slice (some ⟨g0, 0, none⟩) (Ls.length + 1) c0) (Ls.length + 1) (Ls.map (fun e => Value.slice (some ⟨e.1, 0, none⟩) e.2.2.length e.2.1) ++ [.slice (some ⟨g, 0, none⟩) rs.length cp])) (hg : wr.grownBy w' v.ownBlock) : DoS w b a len cap (.slice (some ⟨g0, 0, none⟩) (Ls.length + 1) c0) (Ls ++ [(g, cp, rs)]) at' sd w' := by
  have hty : ∀ {u : Value} {n : Nat} {xs : List Value}, wr.ownsRow (b + 1) 80 3 u n xs → w'.ownsRow (b + 1) 80 3 u n xs := fun {u n xs} hu => row_of hu (fun q hq => hg.block q (row_lt hu q hq).2 (fun e => by
    obtain ⟨c1, h1⟩ := row_type hu hq
    obtain ⟨c2, h2⟩ := row_type h.row e.symm
    rw [h1] at h2
    simp at h2))
  have hsl : b < wr.heap.size := h.src.2.2.2.2.2.1
  refine ⟨?_, fun e he => ?_, fun e he => ?_, src_sameY h.src (hg.block b hsl (fun e => by have := (row_lt h.row b e.symm).1; omega)) hg.size, h.low.grown hg (by omega) (fun k hk => by have := (row_lt h.row k hk).1; omega)⟩
  · rw [List.length_append, List.map_append]; exact ho
  · rcases List.mem_append.1 he with he | he
    · exact hty (h.ents e he)
    · simp at he; subst he; exact hty hx
  · rcases List.mem_append.1 he with he | he
    · exact h.good e he
    · simp at he; subst he; exact hg4
end
theorem row_base {w : World} {B B' : Nat} {e : TypeId} {k : Nat} {v : Value} {n : Nat} {xs : List Value} (h : w.ownsRow B e k v n xs) (hB : B' ≤ B) : w.ownsRow B' e k v n xs := by
  obtain ⟨h1, h2⟩ := h
  refine ⟨h1, ?_⟩
  rcases h2 with h2 | ⟨g, cap, cur, e, hb, r⟩
  · exact .inl h2
  · exact .inr ⟨g, cap, cur, e, Nat.le_trans hB hb, r⟩
theorem dcC_at : ∀ (rs : List RDc) (i : Nat), i < rs.length → (dcC rs)[i * 3]? = some (.string (rs.getD i zDc).ar) ∧ (dcC rs)[i * 3 + 1]? = some (.int .i64 (rs.getD i zDc).un) ∧ (dcC rs)[i * 3 + 2]? = some (.int .i64 (rs.getD i zDc).am)
  | r :: rs, 0, h => ⟨rfl, rfl, rfl⟩
  | r :: rs, i + 1, h => by
    have := dcC_at rs i (by simpa using h)
    rw [show (i + 1) * 3 = i * 3 + 1 + 1 + 1 by omega]
    exact this
theorem dcs_of_row {w : World} {B g cap : Nat} {rs : List RDc} (h : w.ownsRow B 80 3 (.slice (some ⟨g, 0, none⟩) rs.length cap) rs.length (dcC rs)) : DcsAt w g 0 rs := fun i hi => by
  obtain ⟨q0, q1, q2⟩ := dcC_at rs i hi
  refine ⟨?_, ?_, ?_⟩
  · rw [h.cellAt (0 + i * 3) (by omega), show 0 + i * 3 = i * 3 by omega, q0]
  · rw [h.cellAt (0 + i * 3 + 1) (by omega), show 0 + i * 3 + 1 = i * 3 + 1 by omega, q1]
  · rw [h.cellAt (0 + i * 3 + 2) (by omega), show 0 + i * 3 + 2 = i * 3 + 2 by omega, q2]
end Go.Proofs.Ytfiajiodehhmhaa
