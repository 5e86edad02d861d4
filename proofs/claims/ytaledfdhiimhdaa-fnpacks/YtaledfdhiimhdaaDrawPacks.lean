/-
  The specification's packs: of every list of bytes it draws a list of packs with short texts.
-/
import Derived.Test.YtaledfdhiimhdaaDrawShare
import Derived.Test.YtaledfdhiimhdaaPackB
namespace Go.Proofs.Ytaledfdhiimhdaa
open Go.ChangeShapes Go.WideShapes Go.ChangeAt Go.RowKit
set_option linter.unusedVariables false

theorem chance_any (B b : Nat) (a : Option Addr) (len cap : Nat) (zs : List Int) (n at' seed : Int) (w : World) (hB : B ≤ b) (hs : Src w b a len cap at' seed) (hr : RowB B w a len zs) (a1 : at' ≤ 1000000) (hn : 1 ≤ n) (hn' : n ≤ 256) :
    Calls Try.prog 57 #[.pointer (some ⟨b, 0, none⟩), .int .i64 n] w fun e w' => ∃ (x : Bool) (at2 s' : Int), e = .returned (.bool x) ∧ at' ≤ at2 ∧ at2 ≤ at' + 3 ∧ Src w' b a len cap at2 s' ∧ Below B w w' ∧ Apt b w w' := by
  have hnx := next_anyA B b a len cap zs n at' seed w hB hs hr (by omega) hn'
  go_enter Try.func57, Try.ntmps57
  go_wp2_with (go_at_call 23; refine hnx.mono ?_; rintro e w1 ⟨x, a2, s2, rfl, hx, h1, h2, h3, h4, h5⟩)
  go_ret
  exact ⟨_, a2, s2, rfl, h1, h2, h3, h4, h5⟩

/-- The cells of some packs. -/
def pkCells : List Pk → List Value
  | [] => []
  | p :: ps => .string p.name :: .string p.of :: .int .i64 p.count :: pkCells ps
theorem pkCells_length : ∀ ps, (pkCells ps).length = ps.length * 3
  | [] => rfl
  | p :: ps => by simp [pkCells, pkCells_length ps]; omega
theorem pkCells_append : ∀ ps qs, pkCells (ps ++ qs) = pkCells ps ++ pkCells qs
  | [], qs => rfl
  | p :: ps, qs => by simp [pkCells, pkCells_append ps qs]
theorem pkCells_get : ∀ (ps : List Pk) (i : Nat), i < ps.length → (pkCells ps)[i * 3]? = some (.string (ps.getD i pk0).name) ∧ (pkCells ps)[i * 3 + 1]? = some (.string (ps.getD i pk0).of) ∧ (pkCells ps)[i * 3 + 2]? = some (.int .i64 (ps.getD i pk0).count)
  | p :: ps, 0, h => ⟨rfl, rfl, rfl⟩
  | p :: ps, i + 1, h => by
    have := pkCells_get ps i (by simpa using h)
    rw [show (i + 1) * 3 = i * 3 + 1 + 1 + 1 by omega]
    simpa [pkCells] using this
theorem packs_of_row {w : World} {B g cap : Nat} {ps : List Pk} (h : w.ownsRow B 77 3 (.slice (some ⟨g, 0, none⟩) ps.length cap) ps.length (pkCells ps)) : PacksAt w g 0 ps := fun i hi => by
  obtain ⟨q0, q1, q2⟩ := pkCells_get ps i hi
  refine ⟨?_, ?_, ?_⟩
  · rw [h.cellAt (0 + i * 3) (by omega), show 0 + i * 3 = i * 3 by omega, q0]
  · rw [h.cellAt (0 + i * 3 + 1) (by omega), show 0 + i * 3 + 1 = i * 3 + 1 by omega, q1]
  · rw [h.cellAt (0 + i * 3 + 2) (by omega), show 0 + i * 3 + 2 = i * 3 + 2 by omega, q2]

def PksPost (a : Option Addr) (len cap : Nat) (b : Nat) (w : World) (e : Ending) (w' : World) : Prop := ∃ (ps : List Pk) (g cp : Nat) (at' sd : Int), e = .returned (.slice (some ⟨g, 0, none⟩) ps.length cp) ∧ ps.length ≤ cp ∧ ps.length ≤ 8 ∧ (∀ p ∈ ps, PkOK p) ∧ PacksAt w' g 0 ps ∧ g < w'.heap.size ∧ g ≠ b ∧ w.heap.size ≤ g ∧ Src w' b a len cap at' sd ∧ at' ≤ 1000 ∧ Below b w w'

/-- The names of drawn packs. -/
def nms : List ByteArray := [⟨#[112, 97, 105, 114]⟩, ⟨#[98, 111, 120]⟩, ⟨#[116, 114, 97, 121]⟩, ⟨#[112, 97, 108, 108, 101, 116]⟩, ⟨#[116, 114, 117, 99, 107]⟩, ⟨#[107, 195, 164, 115, 101]⟩, ⟨#[115, 105, 120]⟩]
theorem nms_short : ∀ j, (nms.getD j ⟨#[]⟩).size ≤ 6 := fun j => by
  match j with
  | 0 => decide
  | 1 => decide
  | 2 => decide
  | 3 => decide
  | 4 => decide
  | 5 => decide
  | 6 => decide
  | n + 7 => show (0 : Nat) ≤ 6; omega

/-- The source in block b, the names in block bn, the packs drawn so far in a row of their own. -/
def PkSt (w : World) (b bn : Nat) (a : Option Addr) (len cap : Nat) (v : Value) (ps : List Pk) (at' sd : Int) (wr : World) : Prop :=
  (wr.ownsRow (b + 1) 77 3 v ps.length (pkCells ps) ∧ v.ownBlock ≠ some bn) ∧ (∀ j, j < 7 → wr.cell? ⟨bn, j, none⟩ = some (.string (nms.getD j ⟨#[]⟩))) ∧ b + 1 ≤ bn ∧ bn < wr.heap.size ∧ Src wr b a len cap at' sd ∧ Below b w wr

theorem ownsRow_same {w w' : World} {B : Nat} {e : TypeId} {size : Nat} {v : Value} {n : Nat} {xs : List Value} (h : w.ownsRow B e size v n xs) (hs : ∀ k, v.ownBlock = some k → w'.heap[k]? = w.heap[k]?) : w'.ownsRow B e size v n xs := by
  obtain ⟨h1, h2⟩ := h
  refine ⟨h1, ?_⟩
  rcases h2 with h2 | ⟨g, cap, cur, e, hB, hg, r⟩
  · exact .inl h2
  · exact .inr ⟨g, cap, cur, e, hB, (hs g (by rw [e]; rfl)).trans hg, r⟩

theorem PkSt.draw {w : World} {b bn : Nat} {a : Option Addr} {len cap : Nat} {v : Value} {ps : List Pk} {at' sd at2 sd2 : Int} {wr w' : World} (h : PkSt w b bn a len cap v ps at' sd wr) (ha : Apt b wr w') (hb : Below b wr w') (hs : Src w' b a len cap at2 sd2) : PkSt w b bn a len cap v ps at2 sd2 w' := by
  obtain ⟨⟨h1, h1'⟩, h2, h3, h4, h5, h6⟩ := h
  exact ⟨⟨ownsRow_same h1 (fun k hk => ha k (by have := (h1.lt k hk).1; omega)), h1'⟩, fun j hj => (World.cell?_of_block (w := wr) (a := ⟨bn, j, none⟩) (ha bn (by omega))).trans (h2 j hj), h3, Nat.lt_of_lt_of_le h4 hb.size, hs, h6.trans hb⟩
theorem PkSt.drew {w : World} {b bn : Nat} {a : Option Addr} {len cap : Nat} {v : Value} {ps : List Pk} {at' sd : Int} {wr : World} (h : PkSt w b bn a len cap v ps at' sd wr) : PkSt w b bn a len cap v ps at' sd wr.drew := ⟨⟨h.1.1.drew, h.1.2⟩, h.2.1, h.2.2.1, h.2.2.2.1, h.2.2.2.2.1.drew, h.2.2.2.2.2.drew⟩
theorem PkSt.alloc {w : World} {b bn : Nat} {a : Option Addr} {len cap : Nat} {v : Value} {ps : List Pk} {at' sd : Int} {wr : World} (h : PkSt w b bn a len cap v ps at' sd wr) (o : Obj) : PkSt w b bn a len cap v ps at' sd (wr.alloc o) := by
  obtain ⟨⟨h1, h1'⟩, h2, h3, h4, h5, h6⟩ := h
  exact ⟨⟨h1.alloc _, h1'⟩, fun j hj => (World.cell?_of_block (w := wr) (a := ⟨bn, j, none⟩) (Below.heap_alloc _ _ _ h4)).trans (h2 j hj), h3, by simp; omega, h5.alloc _, h6.alloc (by omega) _⟩
theorem PkSt.set {w : World} {b bn : Nat} {a : Option Addr} {len cap : Nat} {v : Value} {ps : List Pk} {at' sd : Int} {wr : World} (h : PkSt w b bn a len cap v ps at' sd wr) (pb o : Nat) (u : Value) (h1 : bn < pb) (h2 : v.ownBlock ≠ some pb) : PkSt w b bn a len cap v ps at' sd (wr.setCell ⟨pb, o, none⟩ u) := by
  obtain ⟨⟨q1, q1'⟩, q2, q3, q4, q5, q6⟩ := h
  have hk : ∀ k, k ≠ pb → (wr.setCell ⟨pb, o, none⟩ u).heap[k]? = wr.heap[k]? := fun k hk => Below.heap_setCell _ _ _ _ hk
  refine ⟨⟨ownsRow_same q1 (fun k hk' => hk k (fun e => h2 (e ▸ hk'))), q1'⟩, fun j hj => (World.cell?_of_block (w := wr) (a := ⟨bn, j, none⟩) (hk bn (by omega))).trans (q2 j hj), q3, by rw [World.size_setCell]; exact q4, ?_, q6.setCell (show b ≤ pb by omega) _⟩
  obtain ⟨s0, s1, s2, f1, f2, sb, r⟩ := q5
  have e := hk b (by omega)
  exact ⟨(World.cell?_of_block (w := wr) (a := ⟨b, 0, none⟩) e).trans s0, (World.cell?_of_block (w := wr) (a := ⟨b, 1, none⟩) e).trans s1, (World.cell?_of_block (w := wr) (a := ⟨b, 2, none⟩) e).trans s2, (World.frozen?_of_block (w := wr) (a := ⟨b, 1, none⟩) e).trans f1, (World.frozen?_of_block (w := wr) (a := ⟨b, 2, none⟩) e).trans f2, by rw [World.size_setCell]; exact sb, r⟩
theorem PkSt.push {w : World} {b bn : Nat} {a : Option Addr} {len cap : Nat} {v : Value} {ps : List Pk} {at' sd : Int} {wr w' : World} {g cp : Nat} {p : Pk} (h : PkSt w b bn a len cap v ps at' sd wr)
    (ho : w'.ownsRow (b + 1) 77 3 (.slice (some ⟨g, 0, none⟩) (ps.length + 1) cp) (ps.length + 1) (pkCells ps ++ [.string p.name, .string p.of, .int .i64 p.count])) (hg : wr.grownBy w' v.ownBlock) (hat : v.ownBlock = some g ∨ g = wr.heap.size) : PkSt w b bn a len cap (.slice (some ⟨g, 0, none⟩) (ps.length + 1) cp) (ps ++ [p]) at' sd w' := by
  obtain ⟨⟨q1, q1'⟩, q2, q3, q4, q5, q6⟩ := h
  refine ⟨⟨?_, ?_⟩, fun j hj => (World.cell?_of_block (w := wr) (a := ⟨bn, j, none⟩) (hg.block bn q4 (fun e => q1' e.symm))).trans (q2 j hj), q3, Nat.lt_of_lt_of_le q4 hg.size, q5.grown (v := undef) hg (fun k hk => by have := (q1.lt k hk).1; omega), q6.grown hg (by omega) (fun k hk => by have := (q1.lt k hk).1; omega)⟩
  · rw [List.length_append, pkCells_append]; exact ho
  · rcases hat with e | e
    · show some g ≠ some bn
      rw [← e]; exact q1'
    · intro e'; simp [Value.ownBlock] at e'; omega
theorem PkSt.start {w : World} {b : Nat} {a : Option Addr} {len cap : Nat} {at' sd : Int} (hs : Src w b a len cap at' sd) :
    PkSt w b (w.heap.size + 1) a len cap (.slice (some ⟨w.heap.size, 0, none⟩) 0 0) [] at' sd ((w.alloc (Obj.cells #[] 77)).alloc (Obj.cells (nms.map Value.string).toArray 9)) := by
  have hb := hs.2.2.2.2.2.1
  refine ⟨⟨⟨rfl, .inr ⟨w.heap.size, 0, #[], rfl, hb, ?_, Nat.le_refl _, by unfold maxLen; omega, rfl, rfl⟩⟩, by simp [Value.ownBlock]⟩, fun j hj => ?_, by omega, by simp, (hs.alloc _).alloc _, ((Below.refl _ _).alloc (by omega) _).alloc (by simp; omega) _⟩
  · exact (Below.heap_alloc _ _ _ (by simp)).trans (heapNew w _)
  · have hn : ((w.alloc (Obj.cells #[] 77)).alloc (Obj.cells (nms.map Value.string).toArray 9)).heap[w.heap.size + 1]? = some (.cells (nms.map Value.string).toArray 9) := by
      have := heapNew (w.alloc (Obj.cells #[] 77)) (Obj.cells (nms.map Value.string).toArray 9)
      rwa [show (w.alloc (Obj.cells #[] 77)).heap.size = w.heap.size + 1 by simp] at this
    have hl : j < nms.length := hj
    unfold World.cell?
    rw [hn]
    simp [List.getD_eq_getElem?_getD, hl]

theorem zeroBlock {wr w2 : World} (h : w2.heap[wr.heap.size]? = (wr.alloc (Obj.cells #[.string ⟨#[]⟩, .string ⟨#[]⟩, .int .i64 0] 77)).drew.heap[wr.heap.size]?) :
    w2.heap[wr.heap.size]? = some (.cells #[.string ⟨#[]⟩, .string ⟨#[]⟩, .int .i64 0] 77 (0, 0)) := h.trans (heapNew wr _)
/-- The cells of a block of three. -/
theorem threeCells {W : World} {pb : Nat} {x y z : Value} {t : TypeId} (e : W.heap[pb]? = some (.cells #[x, y, z] t (0, 0))) :
    (W.cell? ⟨pb, 0, none⟩ = some x ∧ W.cell? ⟨pb, 1, none⟩ = some y ∧ W.cell? ⟨pb, 2, none⟩ = some z) ∧ (W.frozen? ⟨pb, 0, none⟩ = false ∧ W.frozen? ⟨pb, 1, none⟩ = false ∧ W.frozen? ⟨pb, 2, none⟩ = false) ∧ pb < W.heap.size := by
  refine ⟨⟨?_, ?_, ?_⟩, ⟨?_, ?_, ?_⟩, (Array.getElem?_eq_some_iff.1 e).1⟩
  · unfold World.cell?; rw [e]; rfl
  · unfold World.cell?; rw [e]; rfl
  · unfold World.cell?; rw [e]; rfl
  · unfold World.frozen?; rw [e]; rfl
  · unfold World.frozen?; rw [e]; rfl
  · unfold World.frozen?; rw [e]; rfl
/-- .. and one pack more, in a block of its own. -/
def PkNew (w : World) (b bn : Nat) (a : Option Addr) (len cap : Nat) (v : Value) (ps : List Pk) (at' sd : Int) (pb : Nat) (nm o : ByteArray) (c : Int) (W : World) : Prop :=
  PkSt w b bn a len cap v ps at' sd W ∧ W.heap[pb]? = some (.cells #[.string nm, .string o, .int .i64 c] 77 (0, 0)) ∧ bn < pb ∧ v.ownBlock ≠ some pb
theorem PkSt.off {w : World} {b bn : Nat} {a : Option Addr} {len cap : Nat} {v : Value} {ps : List Pk} {at' sd : Int} {W : World} (h : PkSt w b bn a len cap v ps at' sd W) {pb : Nat} (hpb : W.heap.size ≤ pb) : v.ownBlock ≠ some pb := fun e => by
  have := (h.1.1.lt pb e).2; omega
theorem PkNew.fresh {w : World} {b bn : Nat} {a : Option Addr} {len cap : Nat} {v : Value} {ps : List Pk} {at' sd : Int} {W : World} (h : PkSt w b bn a len cap v ps at' sd W) (nm o : ByteArray) (c : Int) :
    PkNew w b bn a len cap v ps at' sd W.heap.size nm o c (W.alloc (Obj.cells #[.string nm, .string o, .int .i64 c] 77)) :=
  ⟨h.alloc _, heapNew W _, h.2.2.2.1, h.off (Nat.le_refl _)⟩
theorem PkNew.three {w : World} {b bn : Nat} {a : Option Addr} {len cap : Nat} {v : Value} {ps : List Pk} {at' sd : Int} {W : World} {pb : Nat} {p q r : Value} (h : PkSt w b bn a len cap v ps at' sd W) (hg : W.heap[pb]? = some (.cells #[p, q, r] 77 (0, 0))) (hb : bn < pb) (hv : v.ownBlock ≠ some pb) (nm o : ByteArray) (c : Int) :
    PkNew w b bn a len cap v ps at' sd pb nm o c (((W.setCell ⟨pb, 0, none⟩ (.string nm)).setCell ⟨pb, 1, none⟩ (.string o)).setCell ⟨pb, 2, none⟩ (.int .i64 c)) :=
  ⟨((h.set pb 0 _ hb hv).set pb 1 _ hb hv).set pb 2 _ hb hv, heap_setCell_same _ _ _ _ _ _ (heap_setCell_same _ _ _ _ _ _ (heap_setCell_same _ _ _ _ _ _ hg)), hb, hv⟩
theorem PkNew.setOf {w : World} {b bn : Nat} {a : Option Addr} {len cap : Nat} {v : Value} {ps : List Pk} {at' sd : Int} {W : World} {pb : Nat} {nm o : ByteArray} {c : Int} (h : PkNew w b bn a len cap v ps at' sd pb nm o c W) (q : ByteArray) :
    PkNew w b bn a len cap v ps at' sd pb nm q c (W.setCell ⟨pb, 1, none⟩ (.string q)) :=
  ⟨h.1.set pb 1 _ h.2.2.1 h.2.2.2, heap_setCell_same _ _ _ _ _ _ h.2.1, h.2.2⟩
theorem PkNew.draw {w : World} {b bn : Nat} {a : Option Addr} {len cap : Nat} {v : Value} {ps : List Pk} {at' sd at2 sd2 : Int} {W w' : World} {pb : Nat} {nm o : ByteArray} {c : Int} (h : PkNew w b bn a len cap v ps at' sd pb nm o c W) (ha : Apt b W w') (hb : Below b W w') (hs : Src w' b a len cap at2 sd2) :
    PkNew w b bn a len cap v ps at2 sd2 pb nm o c w' :=
  ⟨h.1.draw ha hb hs, (ha pb (by have := h.1.2.2.1; have := h.2.2.1; omega)).trans h.2.1, h.2.2⟩
theorem PkSt.row {w : World} {b bn : Nat} {a : Option Addr} {len cap : Nat} {g n cp : Nat} {ps : List Pk} {at' sd : Int} {W : World} (h : PkSt w b bn a len cap (.slice (some ⟨g, 0, none⟩) n cp) ps at' sd W) : ps.length ≤ cp ∧ g < W.heap.size ∧ b < g ∧ cp ≤ maxLen ∧ g ≠ bn := by
  refine ⟨?_, ?_, ?_, ?_, fun e => h.1.2 (by rw [← e]; rfl)⟩
  all_goals
    rcases h.1.1.2 with ⟨h0, _⟩ | ⟨g', cap', cur, e, hB, hg, hn, hc, _⟩
    · cases h0
    · simp at e
      obtain ⟨rfl, _, rfl⟩ := e
      first | exact hn | exact (Array.getElem?_eq_some_iff.1 hg).1 | exact hB | exact hc
theorem packs_of_block {W : World} {g : Nat} {ps : List Pk} {t : TypeId} (h : W.heap[g]? = some (.cells (pkCells ps).toArray t (0, 0))) : PacksAt W g 0 ps := fun i hi => by
  obtain ⟨q0, q1, q2⟩ := pkCells_get ps i hi
  refine ⟨?_, ?_, ?_⟩
  · rw [cell_of_row _ _ _ _ _ _ h, show 0 + i * 3 = i * 3 by omega]; simpa using q0
  · rw [cell_of_row _ _ _ _ _ _ h, show 0 + i * 3 + 1 = i * 3 + 1 by omega]; simpa using q1
  · rw [cell_of_row _ _ _ _ _ _ h, show 0 + i * 3 + 2 = i * 3 + 2 by omega]; simpa using q2
/-- The seven wrong packs. -/
def sev : List Pk := [⟨⟨#[57]⟩, ⟨#[]⟩, 1⟩, ⟨⟨#[97]⟩, ⟨#[]⟩, 0⟩, ⟨⟨#[97]⟩, ⟨#[]⟩, 1001⟩, ⟨⟨#[112, 97, 105, 114]⟩, ⟨#[]⟩, 2⟩, ⟨⟨#[97]⟩, ⟨#[97]⟩, 2⟩, ⟨⟨#[98]⟩, ⟨#[110, 111, 110, 101]⟩, 2⟩, ⟨⟨#[99]⟩, ⟨#[116, 114, 117, 99, 107]⟩, 1000⟩]
theorem sev_ok : ∀ p ∈ sev, PkOK p := fun p hp => by
  simp [sev] at hp
  rcases hp with rfl | rfl | rfl | rfl | rfl | rfl | rfl <;> exact ⟨by decide, by decide⟩
theorem packInfo0 : (Try.prog.info? 77).map (fun i => (i.zero, i.size, i.bytes)) = some (some (.agg #[.string ⟨#[]⟩, .string ⟨#[]⟩, .int .i64 0]), 3, 40) := by kernel_rfl
theorem oneCells (x y : ByteArray) (z : Int) : ∀ u ∈ [Value.string x, .string y, .int .i64 z], u.oneCell' = true := fun u hu => by
  simp at hu; rcases hu with rfl | rfl | rfl <;> rfl
theorem PkSt.own {w : World} {b bn : Nat} {a : Option Addr} {len cap : Nat} {v : Value} {ps : List Pk} {at' sd : Int} {W : World} (h : PkSt w b bn a len cap v ps at' sd W) (o : Obj) : (W.alloc o).ownsRow (b + 1) 77 3 v ps.length (pkCells ps) := h.1.1.alloc _
theorem PkSt.base {w : World} {b bn : Nat} {a : Option Addr} {len cap : Nat} {v : Value} {ps : List Pk} {at' sd : Int} {W : World} (h : PkSt w b bn a len cap v ps at' sd W) (o : Obj) : b + 1 ≤ (W.alloc o).heap.size := by
  have := h.2.2.1; have := h.2.2.2.1; simp; omega
theorem PksPost.mk {w : World} {b bn : Nat} {a : Option Addr} {len cap : Nat} {g n cp : Nat} {ps : List Pk} {at' sd : Int} {W : World} (h : PkSt w b bn a len cap (.slice (some ⟨g, 0, none⟩) n cp) ps at' sd W) (hn : n = ps.length) (hl : ps.length ≤ 8) (hok : ∀ p ∈ ps, PkOK p) (hg : w.heap.size ≤ g) (hat : at' ≤ 1000) :
    PksPost a len cap b w (.returned (.slice (some ⟨g, 0, none⟩) n cp)) W := by
  subst hn
  obtain ⟨r1, r2, r3, _⟩ := h.row
  exact ⟨ps, g, cp, at', sd, rfl, r1, hl, hok, packs_of_row h.1.1, r2, by omega, hg, h.2.2.2.2.1, hat, h.2.2.2.2.2⟩
theorem newer {w W : World} {g g1 n cp H : Nat} {B : Nat} (hg : w.heap.size ≤ g) (h : (Value.slice (some ⟨g, 0, none⟩) n cp).ownBlock = some g1 ∨ g1 = H) (hb : Below B w W) (hH : H = W.heap.size := by rfl) : w.heap.size ≤ g1 := by
  rcases h with h | h
  · simp [Value.ownBlock] at h; omega
  · have := hb.size; omega
theorem getD_ok {ps : List Pk} (h : ∀ p ∈ ps, PkOK p) (j : Nat) (hj : j < ps.length) : PkOK (ps.getD j pk0) := by
  have e : ps.getD j pk0 = ps[j] := by simp [List.getD_eq_getElem?_getD, hj]
  rw [e]; exact h _ (List.getElem_mem _)
theorem news_set (w : World) (ad : Addr) (v : Value) (cs : Array Value) (t : TypeId) : ∀ j u, cs.toList[j]? = some u → ((w.setCell ad v).alloc (Obj.cells cs t)).cell? ((⟨w.heap.size, 0, none⟩ : Addr).add j) = some u := by
  have h := World.news_of_block (heapNew (w.setCell ad v) (Obj.cells cs t))
  rw [World.size_setCell] at h
  exact h
theorem snoc_ok {ps : List Pk} {p : Pk} (h : ∀ q ∈ ps, PkOK q) (hp : PkOK p) : ∀ q ∈ ps ++ [p], PkOK q := fun q hq => by
  rcases List.mem_append.mp hq with h1 | h1
  · exact h q h1
  · simp at h1; subst h1; exact hp

set_option maxHeartbeats 4000000 in
set_option maxRecDepth 4000 in
theorem packs_any (b : Nat) (a : Option Addr) (len cap : Nat) (zs : List Int) (seed : Int) (w : World) (hs : Src w b a len cap 0 seed) (hr : RowB b w a len zs) :
    Calls Try.prog 35 #[.pointer (some ⟨b, 0, none⟩)] w (PksPost a len cap b w) := by
  have hl := hr.1
  have HR : Hid (RowB b w a len zs) := hr
  have HS0 : Hid (Src w b a len cap 0 seed) := hs
  clear hr hs
  obtain ⟨i0, hi, hzz⟩ := Option.map_eq_some_iff.1 packInfo0
  simp only [Prod.mk.injEq] at hzz
  obtain ⟨hi0', hi1', hi2'⟩ := hzz
  go_enter Try.func35, Try.ntmps35
  have HST : Hid (PkSt w b (w.heap.size + 1) a len cap (.slice (some ⟨w.heap.size, 0, none⟩) 0 0) [] 0 seed ((w.alloc (Obj.cells #[] 77)).alloc (Obj.cells (nms.map Value.string).toArray 9))) := PkSt.start HS0.out
  have HNx : Hid (∀ (n at' seed : Int) (w' : World), Src w' b a len cap at' seed → Below b w w' → at' ≤ 1000000 → n ≤ 256 → Calls Try.prog 23 #[.pointer (some ⟨b, 0, none⟩), .int .i64 n] w' fun e w'' => ∃ x at2 s' : Int, e = .returned (.int .i64 x) ∧ Drawn x n ∧ at' ≤ at2 ∧ at2 ≤ at' + 3 ∧ Src w'' b a len cap at2 s' ∧ Below b w' w'' ∧ Apt b w' w'') := fun n at' seed w' hs hb h1 h2 => next_anyA b b a len cap zs n at' seed w' (Nat.le_refl _) hs (HR.out.below hb) (by omega) h2
  have HCh : Hid (∀ (n at' seed : Int) (w' : World), Src w' b a len cap at' seed → Below b w w' → at' ≤ 1000000 → 1 ≤ n → n ≤ 256 → Calls Try.prog 57 #[.pointer (some ⟨b, 0, none⟩), .int .i64 n] w' fun e w'' => ∃ (x : Bool) (at2 s' : Int), e = .returned (.bool x) ∧ at' ≤ at2 ∧ at2 ≤ at' + 3 ∧ Src w'' b a len cap at2 s' ∧ Below b w' w'' ∧ Apt b w' w'') := fun n at' seed w' hs hb h1 h2 h3 => chance_any b b a len cap zs n at' seed w' (Nat.le_refl _) hs (HR.out.below hb) (by omega) h2 h3
  have hsz := size_src b a len cap 6 0 seed _ HST.out.2.2.2.2.1 hl (by omega) (by omega)
  simp only [nms, List.map_cons, List.map_nil] at HST hsz
  go_wp2_with (first
    | (go_at_call 24; refine hsz.mono ?_; rintro e wq ⟨⟨y, rfl, hy1, hy2⟩, hwq⟩; rw [hwq]; clear hwq)
    | (go_at_call 23; refine (HNx.out _ _ _ _ HST.out.2.2.2.2.1 HST.out.2.2.2.2.2 (by omega) (by omega)).mono ?_; rintro e w1 ⟨x1, a1, s1, rfl, ⟨hx0, hx1⟩, hl1, hu1, hs1, hb1, ha1⟩; have HS1 : Hid (PkSt w b (w.heap.size + 1) a len cap (.slice (some ⟨w.heap.size, 0, none⟩) 0 0) [] a1 s1 w1) := HST.out.draw ha1 hb1 hs1; clear hs1 hb1 ha1))
  have HI : Hid (0 ≤ x1 ∧ x1 ≤ 6 ∧ a1 ≤ 3 ∧ w.heap.size + 1 = w.heap.size + 1) := ⟨hx0, by omega, by omega, rfl⟩
  clear hx0 hx1 hl1 hu1 hy1 hy2 hsz HST
  generalize w.heap.size + 1 = bn at *
  go_loopw [3, 5, 6] (fun v c _ wr => ∃ (ps : List Pk) (g cp : Nat) (i at' sd : Int), v = .slice (some ⟨g, 0, none⟩) ps.length cp ∧ c = .int .i64 i ∧ 0 ≤ i ∧ (ps.length : Int) + i ≤ 6 ∧ at' + 9 * i ≤ 100 ∧ (∀ p ∈ ps, PkOK p) ∧ w.heap.size ≤ g ∧ PkSt w b bn a len cap (.slice (some ⟨g, 0, none⟩) ps.length cp) ps at' sd wr) (fun _ c _ _ => (intOf c).toNat)
  case atStart => exact ⟨[], w.heap.size, 0, x1, a1, s1, rfl, rfl, HI.out.1, by have := HI.out; simp; omega, by have := HI.out; omega, by simp, Nat.le_refl _, HS1.out⟩
  case round =>
    clear HS1 HI
    obtain ⟨ps, g, cp, i, at', sd, rfl, rfl, hi0, hil, hat, hok, hg, hst⟩ := hrel
    have HST : Hid (PkSt w b bn a len cap (.slice (some ⟨g, 0, none⟩) ps.length cp) ps at' sd wr) := hst
    have HOK : Hid (∀ p ∈ ps, PkOK p) := hok
    have hat0 : 0 ≤ at' := hst.2.2.2.2.1.2.2.2.2.2.2.1
    have hbn : bn < wr.heap.size := hst.2.2.2.1
    clear hst hok
    by_cases hz : i = 0
    · subst hz
      have hlp : ps.length ≤ 6 := by omega
      go_wp2_with (first
        | (go_at_call 57; refine (HCh.out _ _ _ _ HST.out.2.2.2.2.1 HST.out.2.2.2.2.2 (by omega) (by omega) (by omega)).mono ?_; rintro e w4 ⟨xb, a3, s3, rfl, hl3, hu4, hs3, hb3, ha3⟩; have HN4 : Hid (PkSt w b bn a len cap (.slice (some ⟨g, 0, none⟩) ps.length cp) ps a3 s3 w4) := HST.out.draw ha3 hb3 hs3; clear hs3 hb3 ha3)
        | (go_at_call 23; refine (HNx.out _ _ _ _ (HN4.out.alloc _).2.2.2.2.1 (HN4.out.alloc _).2.2.2.2.2 (by omega) (by omega)).mono ?_; rintro e w5 ⟨x3, a4, s4, rfl, ⟨hx30, hx31⟩, hl4, hu5, hs4, hb4, ha4⟩; obtain ⟨j, rfl⟩ : ∃ j : Nat, x3 = (j : Int) := ⟨x3.toNat, (by omega)⟩; have hj : (j : Int) < 7 := (by omega); have HS5 : Hid (PkSt w b bn a len cap (.slice (some ⟨g, 0, none⟩) ps.length cp) ps a4 s4 w5) := (HN4.out.alloc _).draw ha4 hb4 hs4; have hB7 : w5.heap[w4.heap.size]? = some (.cells (pkCells sev).toArray 77 (0, 0)) := (ha4 w4.heap.size (by have := HN4.out.2.2.1; have := HN4.out.2.2.2.1; omega)).trans (heapNew w4 _); obtain ⟨q0, q1, q2⟩ := packs_of_block hB7 j (by show j < 7; omega); have hok7 := getD_ok sev_ok j (by show j < 7; omega); rw [Nat.zero_add] at q0 q1 q2; generalize sev.getD j pk0 = p7 at q0 q1 q2 hok7; obtain ⟨pn, po, pc⟩ := p7; dsimp only at q0 q1 q2; clear hs4 hb4 ha4 hB7 hx30 hx31)
        | (at_builtin; have _t := HS5; refine wpList_append_lies _ rfl _ _ 36 rfl (b + 1) 77 i0 (.agg #[.string ⟨#[]⟩, .string ⟨#[]⟩, .int .i64 0]) 3 40 Try.underlying36 hi hi0' hi1' hi2' rfl (by decide) _ _ _ rfl (HS5.out.own _) ⟨w5.heap.size, 0, none⟩ 1 1 [.string pn, .string po, .int .i64 pc] rfl rfl (World.news_of_block (heapNew w5 _)) (oneCells _ _ _) (by omega) (by unfold maxLen; omega) (by omega) (HS5.out.base _) _ rfl ?_; intro g1 cp1 w7 hown1 hgrow1 hat1 hglt1; have HF : Hid (PkSt w b bn a len cap (.slice (some ⟨g1, 0, none⟩) (ps.length + 1) cp1) (ps ++ [⟨pn, po, pc⟩]) a4 s4 w7 ∧ w.heap.size ≤ g1) := ⟨(HS5.out.alloc _).push (p := ⟨pn, po, pc⟩) hown1 hgrow1 hat1, newer hg hat1 (HS5.out.alloc _).2.2.2.2.2⟩; clear hown1 hgrow1 hat1 hglt1))
      · go_ret
        exact PksPost.mk HF.out.1 (by simp) (by simp; omega) (snoc_ok HOK.out hok7) HF.out.2 (by omega)
      · go_ret
        exact PksPost.mk HN4.out rfl (by omega) HOK.out hg (by omega)
    · have hpos : 1 ≤ i := by omega
      have hlp : ps.length < 7 := by omega
      have htm : ((ps.length : Int)).tmod 7 = (ps.length : Int) := by rw [Int.tmod_eq_emod_of_nonneg (by omega)]; omega
      have hcn := HST.out.2.1 ps.length hlp
      have hns := nms_short ps.length
      obtain ⟨nm, hnm⟩ : ∃ nm, nm = nms.getD ps.length ⟨#[]⟩ := ⟨_, rfl⟩
      rw [← hnm] at hcn hns
      have HNm : Hid (nm = nms.getD ps.length ⟨#[]⟩) := hnm
      clear hnm
      clear hz
      have hl7 : (ps.length : Int) < 7 := by omega
      have hne1 : wr.heap.size ≠ bn := by omega
      have hne2 : bn ≠ wr.heap.size := by omega
      have HNext : Hid (∀ w', PkSt w b bn a len cap (.slice (some ⟨g, 0, none⟩) ps.length cp) ps at' sd w' → Calls Try.prog 23 #[.pointer (some ⟨b, 0, none⟩), .int .i64 12] w' fun e w'' => ∃ x a2 s2 : Int, e = .returned (.int .i64 x) ∧ 0 ≤ x ∧ x ≤ 11 ∧ a2 ≤ at' + 3 ∧ PkSt w b bn a len cap (.slice (some ⟨g, 0, none⟩) ps.length cp) ps a2 s2 w'' ∧ w''.cell? ⟨bn, ps.length, none⟩ = some (.string nm) ∧ (∀ k, k ≠ b → w''.heap[k]? = w'.heap[k]?) ∧ w'.heap.size ≤ w''.heap.size) := fun w' h => by
        refine (HNx.out 12 at' sd w' h.2.2.2.2.1 h.2.2.2.2.2 (by omega) (by omega)).mono ?_
        rintro e w'' ⟨x, a2, s2, rfl, ⟨hx0, hx1⟩, hl2, hu2, hs2, hb2, ha2⟩
        refine ⟨x, a2, s2, rfl, hx0, by omega, hu2, h.draw ha2 hb2 hs2, ?_, ha2, hb2.size⟩
        rw [HNm.out]; exact (h.draw ha2 hb2 hs2).2.1 ps.length hlp
      go_wp2
      go_region_held3 (fun W => W.cell? ⟨bn, ps.length, none⟩ = some (.string nm)) (first | exact hcn | assumption | go_keep) (first
        | (go_at_call 23; refine (HNext.out _ HST.out.drew).mono ?_; rintro e w2 ⟨x2, a2, s2, rfl, hx0, hx1, hu2, hs2, hc2, ha2, hz2⟩; have HS2 : Hid (PkSt w b bn a len cap (.slice (some ⟨g, 0, none⟩) ps.length cp) ps a2 s2 w2) := hs2; have hwx : IntKind.i64.wrap (1 + x2) = 1 + x2 := wrap_id _ (by omega) (by omega); clear hs2 hz2 ha2)
        | (go_at_call 23; refine (HNext.out _ (HST.out.alloc _).drew).mono ?_; rintro e w2 ⟨x2, a2, s2, rfl, hx0, hx1, hu2, hs2, hc2, ha2, hz2⟩; have HS2 : Hid (PkSt w b bn a len cap (.slice (some ⟨g, 0, none⟩) ps.length cp) ps a2 s2 w2) := hs2; have HZ2 : Hid (w2.heap[wr.heap.size]? = some (.cells #[.string ⟨#[]⟩, .string ⟨#[]⟩, .int .i64 0] 77 (0, 0))) := zeroBlock (ha2 wr.heap.size (by have := HST.out.2.2.1; omega)); obtain ⟨⟨k0, k1, k2⟩, ⟨f0, f1, f2⟩, klt⟩ := threeCells HZ2.out; have hwx : IntKind.i64.wrap (1 + x2) = 1 + x2 := wrap_id _ (by omega) (by omega); clear hs2 hz2 ha2))
      · have HN : Hid (PkNew w b bn a len cap (.slice (some ⟨g, 0, none⟩) ps.length cp) ps a2 s2 w2.heap.size nm ⟨#[]⟩ (1 + x2) (w2.alloc (Obj.cells #[.string nm, .string ⟨#[]⟩, .int .i64 (1 + x2)] 77))) := PkNew.fresh HS2.out nm _ _
        clear HS2 hc2 hwx HNext HST hcn
        generalize w2.alloc (Obj.cells #[.string nm, .string ⟨#[]⟩, .int .i64 (1 + x2)] 77) = W3 at *
        generalize w2.heap.size = pb at *
        obtain ⟨⟨m0, m1, m2⟩, ⟨mf0, mf1, mf2⟩, mlt⟩ := threeCells HN.out.2.1
        clear mf0 mf2
        have hu3 : a2 ≤ at' + 3 := hu2
        have ha20 : 0 ≤ a2 := HN.out.1.2.2.2.2.1.2.2.2.2.2.2.1
        by_cases hz0 : ps.length = 0
        · have hp0 : (ps.length : Int) ≤ 0 := by omega
          have hg0 : decide ((0 : Int) < (ps.length : Int)) = false := decide_eq_false (by omega)
          clear hz0
          go_wp2_with (first | (at_builtin; have _t := HN; refine wpList_append_lies _ rfl _ _ 36 rfl (b + 1) 77 i0 (.agg #[.string ⟨#[]⟩, .string ⟨#[]⟩, .int .i64 0]) 3 40 Try.underlying36 hi hi0' hi1' hi2' rfl (by decide) _ _ _ rfl (HN.out.1.own _) ⟨(W3).heap.size, 0, none⟩ 1 1 [.string nm, .string ⟨#[]⟩, .int .i64 (1 + x2)] rfl rfl (World.news_of_block (heapNew (W3) _)) (oneCells _ _ _) (by omega) (by unfold maxLen; omega) (by omega) (HN.out.1.base _) _ rfl ?_; intro g1 cp1 w7 hown1 hgrow1 hat1 hglt1; have HF : Hid (PkSt w b bn a len cap (.slice (some ⟨g1, 0, none⟩) (ps.length + 1) cp1) (ps ++ [⟨nm, ⟨#[]⟩, (1 + x2)⟩]) a2 s2 w7 ∧ w.heap.size ≤ g1) := ⟨(HN.out.1.alloc _).push (p := ⟨nm, ⟨#[]⟩, (1 + x2)⟩) hown1 hgrow1 hat1, newer hg hat1 (HN.out.1.alloc _).2.2.2.2.2⟩; clear hown1 hgrow1 hat1 hglt1))
          refine ⟨⟨ps ++ [⟨nm, ⟨#[]⟩, 1 + x2⟩], g1, cp1, i - 1, a2, s2, ?_⟩, by simp [intOf]; omega⟩
          rw [show (ps ++ [(⟨nm, ⟨#[]⟩, 1 + x2⟩ : Pk)]).length = ps.length + 1 by simp]
          exact ⟨rfl, rfl, by omega, by omega, by omega, snoc_ok HOK.out ⟨by show nm.size ≤ _; omega, by show (0 : Nat) ≤ 2000000; omega⟩, HF.out.2, HF.out.1⟩
        · have hp0 : (0 : Int) < (ps.length : Int) := by omega
          go_wp2_with (first
            | (go_at_call 57; refine (HCh.out _ _ _ _ HN.out.1.2.2.2.2.1 HN.out.1.2.2.2.2.2 (by omega) (by omega) (by omega)).mono ?_; rintro e w4 ⟨xb, a3, s3, rfl, hl3, hu4, hs3, hb3, ha3⟩; have HN4 : Hid (PkNew w b bn a len cap (.slice (some ⟨g, 0, none⟩) ps.length cp) ps a3 s3 pb nm ⟨#[]⟩ (1 + x2) w4) := HN.out.draw ha3 hb3 hs3; obtain ⟨⟨m0, m1, m2⟩, ⟨mf0, mf1, mf2⟩, mlt⟩ := threeCells HN4.out.2.1; clear hs3 hb3 ha3 HN mf0 mf2)
            | (go_at_call 23; refine (HNx.out _ _ _ _ HN4.out.1.2.2.2.2.1 HN4.out.1.2.2.2.2.2 (by omega) (by omega)).mono ?_; rintro e w5 ⟨x3, a4, s4, rfl, ⟨hx30, hx31⟩, hl4, hu5, hs4, hb4, ha4⟩; obtain ⟨j, rfl⟩ : ∃ j : Nat, x3 = (j : Int) := ⟨x3.toNat, (by omega)⟩; have hj : (j : Int) < (ps.length : Int) := (by omega); have HN5 : Hid (PkNew w b bn a len cap (.slice (some ⟨g, 0, none⟩) ps.length cp) ps a4 s4 pb nm ⟨#[]⟩ (1 + x2) w5) := HN4.out.draw ha4 hb4 hs4; obtain ⟨⟨m0, m1, m2⟩, ⟨mf0, mf1, mf2⟩, mlt⟩ := threeCells HN5.out.2.1; obtain ⟨hq0, _, _⟩ := packs_of_row HN5.out.1.1.1 j (by omega); have hqs := (getD_ok HOK.out j (by omega)).1; rw [Nat.zero_add] at hq0; generalize (ps.getD j pk0).name = q at hq0 hqs; have HN6 : Hid (PkNew w b bn a len cap (.slice (some ⟨g, 0, none⟩) ps.length cp) ps a4 s4 pb nm q (1 + x2) (w5.setCell ⟨pb, 1, none⟩ (.string q))) := HN5.out.setOf q; clear hs4 hb4 ha4 HN4 mf0 mf2 hx30 hx31)
            | (at_builtin; have _t := HN6; refine wpList_append_lies _ rfl _ _ 36 rfl (b + 1) 77 i0 (.agg #[.string ⟨#[]⟩, .string ⟨#[]⟩, .int .i64 0]) 3 40 Try.underlying36 hi hi0' hi1' hi2' rfl (by decide) _ _ _ rfl (HN6.out.1.own _) ⟨w5.heap.size, 0, none⟩ 1 1 [.string nm, .string q, .int .i64 (1 + x2)] rfl rfl (news_set w5 _ _ _ _) (oneCells _ _ _) (by omega) (by unfold maxLen; omega) (by omega) (HN6.out.1.base _) _ rfl ?_; intro g1 cp1 w7 hown1 hgrow1 hat1 hglt1; have HF : Hid (PkSt w b bn a len cap (.slice (some ⟨g1, 0, none⟩) (ps.length + 1) cp1) (ps ++ [⟨nm, q, (1 + x2)⟩]) a4 s4 w7 ∧ w.heap.size ≤ g1) := ⟨(HN6.out.1.alloc _).push (p := ⟨nm, q, (1 + x2)⟩) hown1 hgrow1 hat1, newer hg hat1 (HN6.out.1.alloc _).2.2.2.2.2⟩; clear hown1 hgrow1 hat1 hglt1)
            | (at_builtin; have _t := HN4; refine wpList_append_lies _ rfl _ _ 36 rfl (b + 1) 77 i0 (.agg #[.string ⟨#[]⟩, .string ⟨#[]⟩, .int .i64 0]) 3 40 Try.underlying36 hi hi0' hi1' hi2' rfl (by decide) _ _ _ rfl (HN4.out.1.own _) ⟨(w4).heap.size, 0, none⟩ 1 1 [.string nm, .string ⟨#[]⟩, .int .i64 (1 + x2)] rfl rfl (World.news_of_block (heapNew (w4) _)) (oneCells _ _ _) (by omega) (by unfold maxLen; omega) (by omega) (HN4.out.1.base _) _ rfl ?_; intro g1 cp1 w7 hown1 hgrow1 hat1 hglt1; have HF : Hid (PkSt w b bn a len cap (.slice (some ⟨g1, 0, none⟩) (ps.length + 1) cp1) (ps ++ [⟨nm, ⟨#[]⟩, (1 + x2)⟩]) a3 s3 w7 ∧ w.heap.size ≤ g1) := ⟨(HN4.out.1.alloc _).push (p := ⟨nm, ⟨#[]⟩, (1 + x2)⟩) hown1 hgrow1 hat1, newer hg hat1 (HN4.out.1.alloc _).2.2.2.2.2⟩; clear hown1 hgrow1 hat1 hglt1))
          · refine ⟨⟨ps ++ [⟨nm, q, 1 + x2⟩], g1, cp1, i - 1, a4, s4, ?_⟩, by simp [intOf]; omega⟩
            rw [show (ps ++ [(⟨nm, q, 1 + x2⟩ : Pk)]).length = ps.length + 1 by simp]
            exact ⟨rfl, rfl, by omega, by omega, by omega, snoc_ok HOK.out ⟨by show nm.size ≤ _; omega, hqs⟩, HF.out.2, HF.out.1⟩
          · refine ⟨⟨ps ++ [⟨nm, ⟨#[]⟩, 1 + x2⟩], g1, cp1, i - 1, a3, s3, ?_⟩, by simp [intOf]; omega⟩
            rw [show (ps ++ [(⟨nm, ⟨#[]⟩, 1 + x2⟩ : Pk)]).length = ps.length + 1 by simp]
            exact ⟨rfl, rfl, by omega, by omega, by omega, snoc_ok HOK.out ⟨by show nm.size ≤ _; omega, by show (0 : Nat) ≤ 2000000; omega⟩, HF.out.2, HF.out.1⟩
      · have HN : Hid (PkNew w b bn a len cap (.slice (some ⟨g, 0, none⟩) ps.length cp) ps a2 s2 wr.heap.size nm ⟨#[]⟩ (1 + x2) (((w2.setCell ⟨wr.heap.size, 0, none⟩ (.string nm)).setCell ⟨wr.heap.size, 1, none⟩ (.string ⟨#[]⟩)).setCell ⟨wr.heap.size, 2, none⟩ (.int .i64 (1 + x2)))) := PkNew.three HS2.out HZ2.out hbn (HST.out.off (Nat.le_refl _)) nm _ _
        clear HS2 hc2 hwx HNext HST hcn HZ2 k0 k1 k2 f0 f1 f2 klt hne1 hne2
        generalize ((w2.setCell ⟨wr.heap.size, 0, none⟩ (.string nm)).setCell ⟨wr.heap.size, 1, none⟩ (.string ⟨#[]⟩)).setCell ⟨wr.heap.size, 2, none⟩ (.int .i64 (1 + x2)) = W3 at *
        generalize wr.heap.size = pb at *
        obtain ⟨⟨m0, m1, m2⟩, ⟨mf0, mf1, mf2⟩, mlt⟩ := threeCells HN.out.2.1
        clear mf0 mf2
        have hu3 : a2 ≤ at' + 3 := hu2
        have ha20 : 0 ≤ a2 := HN.out.1.2.2.2.2.1.2.2.2.2.2.2.1
        by_cases hz0 : ps.length = 0
        · have hp0 : (ps.length : Int) ≤ 0 := by omega
          have hg0 : decide ((0 : Int) < (ps.length : Int)) = false := decide_eq_false (by omega)
          clear hz0
          go_wp2_with (first | (at_builtin; have _t := HN; refine wpList_append_lies _ rfl _ _ 36 rfl (b + 1) 77 i0 (.agg #[.string ⟨#[]⟩, .string ⟨#[]⟩, .int .i64 0]) 3 40 Try.underlying36 hi hi0' hi1' hi2' rfl (by decide) _ _ _ rfl (HN.out.1.own _) ⟨(W3).heap.size, 0, none⟩ 1 1 [.string nm, .string ⟨#[]⟩, .int .i64 (1 + x2)] rfl rfl (World.news_of_block (heapNew (W3) _)) (oneCells _ _ _) (by omega) (by unfold maxLen; omega) (by omega) (HN.out.1.base _) _ rfl ?_; intro g1 cp1 w7 hown1 hgrow1 hat1 hglt1; have HF : Hid (PkSt w b bn a len cap (.slice (some ⟨g1, 0, none⟩) (ps.length + 1) cp1) (ps ++ [⟨nm, ⟨#[]⟩, (1 + x2)⟩]) a2 s2 w7 ∧ w.heap.size ≤ g1) := ⟨(HN.out.1.alloc _).push (p := ⟨nm, ⟨#[]⟩, (1 + x2)⟩) hown1 hgrow1 hat1, newer hg hat1 (HN.out.1.alloc _).2.2.2.2.2⟩; clear hown1 hgrow1 hat1 hglt1))
          refine ⟨⟨ps ++ [⟨nm, ⟨#[]⟩, 1 + x2⟩], g1, cp1, i - 1, a2, s2, ?_⟩, by simp [intOf]; omega⟩
          rw [show (ps ++ [(⟨nm, ⟨#[]⟩, 1 + x2⟩ : Pk)]).length = ps.length + 1 by simp]
          exact ⟨rfl, rfl, by omega, by omega, by omega, snoc_ok HOK.out ⟨by show nm.size ≤ _; omega, by show (0 : Nat) ≤ 2000000; omega⟩, HF.out.2, HF.out.1⟩
        · have hp0 : (0 : Int) < (ps.length : Int) := by omega
          go_wp2_with (first
            | (go_at_call 57; refine (HCh.out _ _ _ _ HN.out.1.2.2.2.2.1 HN.out.1.2.2.2.2.2 (by omega) (by omega) (by omega)).mono ?_; rintro e w4 ⟨xb, a3, s3, rfl, hl3, hu4, hs3, hb3, ha3⟩; have HN4 : Hid (PkNew w b bn a len cap (.slice (some ⟨g, 0, none⟩) ps.length cp) ps a3 s3 pb nm ⟨#[]⟩ (1 + x2) w4) := HN.out.draw ha3 hb3 hs3; obtain ⟨⟨m0, m1, m2⟩, ⟨mf0, mf1, mf2⟩, mlt⟩ := threeCells HN4.out.2.1; clear hs3 hb3 ha3 HN mf0 mf2)
            | (go_at_call 23; refine (HNx.out _ _ _ _ HN4.out.1.2.2.2.2.1 HN4.out.1.2.2.2.2.2 (by omega) (by omega)).mono ?_; rintro e w5 ⟨x3, a4, s4, rfl, ⟨hx30, hx31⟩, hl4, hu5, hs4, hb4, ha4⟩; obtain ⟨j, rfl⟩ : ∃ j : Nat, x3 = (j : Int) := ⟨x3.toNat, (by omega)⟩; have hj : (j : Int) < (ps.length : Int) := (by omega); have HN5 : Hid (PkNew w b bn a len cap (.slice (some ⟨g, 0, none⟩) ps.length cp) ps a4 s4 pb nm ⟨#[]⟩ (1 + x2) w5) := HN4.out.draw ha4 hb4 hs4; obtain ⟨⟨m0, m1, m2⟩, ⟨mf0, mf1, mf2⟩, mlt⟩ := threeCells HN5.out.2.1; obtain ⟨hq0, _, _⟩ := packs_of_row HN5.out.1.1.1 j (by omega); have hqs := (getD_ok HOK.out j (by omega)).1; rw [Nat.zero_add] at hq0; generalize (ps.getD j pk0).name = q at hq0 hqs; have HN6 : Hid (PkNew w b bn a len cap (.slice (some ⟨g, 0, none⟩) ps.length cp) ps a4 s4 pb nm q (1 + x2) (w5.setCell ⟨pb, 1, none⟩ (.string q))) := HN5.out.setOf q; clear hs4 hb4 ha4 HN4 mf0 mf2 hx30 hx31)
            | (at_builtin; have _t := HN6; refine wpList_append_lies _ rfl _ _ 36 rfl (b + 1) 77 i0 (.agg #[.string ⟨#[]⟩, .string ⟨#[]⟩, .int .i64 0]) 3 40 Try.underlying36 hi hi0' hi1' hi2' rfl (by decide) _ _ _ rfl (HN6.out.1.own _) ⟨w5.heap.size, 0, none⟩ 1 1 [.string nm, .string q, .int .i64 (1 + x2)] rfl rfl (news_set w5 _ _ _ _) (oneCells _ _ _) (by omega) (by unfold maxLen; omega) (by omega) (HN6.out.1.base _) _ rfl ?_; intro g1 cp1 w7 hown1 hgrow1 hat1 hglt1; have HF : Hid (PkSt w b bn a len cap (.slice (some ⟨g1, 0, none⟩) (ps.length + 1) cp1) (ps ++ [⟨nm, q, (1 + x2)⟩]) a4 s4 w7 ∧ w.heap.size ≤ g1) := ⟨(HN6.out.1.alloc _).push (p := ⟨nm, q, (1 + x2)⟩) hown1 hgrow1 hat1, newer hg hat1 (HN6.out.1.alloc _).2.2.2.2.2⟩; clear hown1 hgrow1 hat1 hglt1)
            | (at_builtin; have _t := HN4; refine wpList_append_lies _ rfl _ _ 36 rfl (b + 1) 77 i0 (.agg #[.string ⟨#[]⟩, .string ⟨#[]⟩, .int .i64 0]) 3 40 Try.underlying36 hi hi0' hi1' hi2' rfl (by decide) _ _ _ rfl (HN4.out.1.own _) ⟨(w4).heap.size, 0, none⟩ 1 1 [.string nm, .string ⟨#[]⟩, .int .i64 (1 + x2)] rfl rfl (World.news_of_block (heapNew (w4) _)) (oneCells _ _ _) (by omega) (by unfold maxLen; omega) (by omega) (HN4.out.1.base _) _ rfl ?_; intro g1 cp1 w7 hown1 hgrow1 hat1 hglt1; have HF : Hid (PkSt w b bn a len cap (.slice (some ⟨g1, 0, none⟩) (ps.length + 1) cp1) (ps ++ [⟨nm, ⟨#[]⟩, (1 + x2)⟩]) a3 s3 w7 ∧ w.heap.size ≤ g1) := ⟨(HN4.out.1.alloc _).push (p := ⟨nm, ⟨#[]⟩, (1 + x2)⟩) hown1 hgrow1 hat1, newer hg hat1 (HN4.out.1.alloc _).2.2.2.2.2⟩; clear hown1 hgrow1 hat1 hglt1))
          · refine ⟨⟨ps ++ [⟨nm, q, 1 + x2⟩], g1, cp1, i - 1, a4, s4, ?_⟩, by simp [intOf]; omega⟩
            rw [show (ps ++ [(⟨nm, q, 1 + x2⟩ : Pk)]).length = ps.length + 1 by simp]
            exact ⟨rfl, rfl, by omega, by omega, by omega, snoc_ok HOK.out ⟨by show nm.size ≤ _; omega, hqs⟩, HF.out.2, HF.out.1⟩
          · refine ⟨⟨ps ++ [⟨nm, ⟨#[]⟩, 1 + x2⟩], g1, cp1, i - 1, a3, s3, ?_⟩, by simp [intOf]; omega⟩
            rw [show (ps ++ [(⟨nm, ⟨#[]⟩, 1 + x2⟩ : Pk)]).length = ps.length + 1 by simp]
            exact ⟨rfl, rfl, by omega, by omega, by omega, snoc_ok HOK.out ⟨by show nm.size ≤ _; omega, by show (0 : Nat) ≤ 2000000; omega⟩, HF.out.2, HF.out.1⟩
end Go.Proofs.Ytaledfdhiimhdaa
