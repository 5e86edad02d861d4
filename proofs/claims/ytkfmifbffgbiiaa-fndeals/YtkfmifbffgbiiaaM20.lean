/-
  Texts of this claim laid together: BkA.
-/
import Derived.Test.YtkfmifbffgbiiaaM19
/-
  Uses that are kept out of drawn ones, in a row of their own; a region in which a list of uses is copied, one more is put behind it and priced.
-/
namespace Go.Proofs.Ytkfmifbffgbiiaa
open Go.ChangeShapes Go.WideShapes Go.ChangeAt Go.RowKit Go.Deep
set_option linter.unusedVariables false

/-- The cells of uses whose units lie where they lay in w4, in no block up to g0. -/
def Fit3 (g0 : Nat) (w4 : World) (U : List CUs) (C : List Value) : Prop := ∀ i, i < U.length → ∃ h c, C[i * 3]? = some (.int .i64 (U.getD i zUs).dl) ∧ C[i * 3 + 1]? = some (.int .i64 (U.getD i zUs).sv) ∧ C[i * 3 + 2]? = some (.slice h (U.getD i zUs).us.length c) ∧ (U.getD i zUs).us.length ≤ c ∧ RIz (g0 + 1) w4.heap.size w4 h (U.getD i zUs).us
theorem Fit3.snoc {g0 : Nat} {w4 : World} {U : List CUs} {C : List Value} (h : Fit3 g0 w4 U C) (hC : C.length = U.length * 3) (r : CUs) (ha : Option Addr) (c : Nat) (hc : r.us.length ≤ c) (hr : RIz (g0 + 1) w4.heap.size w4 ha r.us) : Fit3 g0 w4 (U ++ [r]) (C ++ [.int .i64 r.dl, .int .i64 r.sv, .slice ha r.us.length c]) := fun i hi => by
  rw [List.length_append] at hi
  by_cases e : i = U.length
  · subst e
    rw [show (U ++ [r]).getD U.length zUs = r by simp]
    refine ⟨ha, c, ?_, ?_, ?_, hc, hr⟩
    · rw [List.getElem?_append_right (by omega), hC, Nat.sub_self]; rfl
    · rw [List.getElem?_append_right (by omega), hC, show U.length * 3 + 1 - U.length * 3 = 1 by omega]; rfl
    · rw [List.getElem?_append_right (by omega), hC, show U.length * 3 + 2 - U.length * 3 = 2 by omega]; rfl
  · have hi' : i < U.length := by simp at hi; omega
    obtain ⟨g', c', k0, k1, k2, k3, k4⟩ := h i hi'
    rw [show (U ++ [r]).getD i zUs = U.getD i zUs by simp only [List.getD_eq_getElem?_getD]; rw [List.getElem?_append_left hi']]
    exact ⟨g', c', by rw [List.getElem?_append_left (by omega)]; exact k0, by rw [List.getElem?_append_left (by omega)]; exact k1, by rw [List.getElem?_append_left (by omega)]; exact k2, k3, k4⟩
theorem Fit3.reads {g0 B : Nat} {w4 W : World} {U : List CUs} {C : List Value} {va : Option Addr} {vc : Nat} (h : Fit3 g0 w4 U C) (ha : Apart g0 w4 W) (ho : W.ownsRow B 36 3 (.slice va U.length vc) U.length C) : ReadsUs W.heap.size W va U := by
  rcases Nat.eq_zero_or_pos U.length with hz | hz
  · exact .inl (List.eq_nil_of_length_eq_zero hz)
  obtain ⟨g, cp, e⟩ := row_some ho hz
  simp only [Value.slice.injEq] at e
  obtain ⟨rfl, _, rfl⟩ := e
  refine .inr ⟨g, 0, rfl, (ho.lt g rfl).2, fun i hi => ?_⟩
  obtain ⟨h', c, k0, k1, k2, k3, k4⟩ := h i hi
  have k5 := k4.of (W' := W) (fun q cur h1 h2 hq => ha.2 q (by omega) h2)
  refine ⟨h', c, ⟨?_, ?_, ?_⟩, k3, k5.reads⟩
  · rw [Nat.zero_add, ho.cellAt _ (by omega)]; exact k0
  · rw [Nat.zero_add, ho.cellAt _ (by omega)]; exact k1
  · rw [Nat.zero_add, ho.cellAt _ (by omega)]; exact k2
/-- The uses that are kept so far. -/
structure BkSt (w4 : World) (g0 : Nat) (g cp : Nat) (U : List CUs) (C : List Value) (W : World) : Prop where
  ap : Apart g0 w4 W
  lw : Below g0 w4 W
  g0l : g0 < w4.heap.size
  gat : g = g0 ∨ w4.heap.size ≤ g
  row : W.ownsRow g0 36 3 (.slice (some ⟨g, 0, none⟩) U.length cp) U.length C
  fit : Fit3 g0 w4 U C
  one : ∀ u ∈ C, u.oneCell' = true
theorem BkSt.later {w4 : World} {g0 g cp : Nat} {U : List CUs} {C : List Value} {W W' : World} (h : BkSt w4 g0 g cp U C W) (hb : Below W.heap.size W W') : BkSt w4 g0 g cp U C W' :=
  ⟨apart_trans h.ap (apart_of hb), h.lw.trans (hb.mono (Nat.le_trans (Nat.le_of_lt h.g0l) h.ap.1)), h.g0l, h.gat, ownsRow_sameP h.row (fun k hk => hb.block k (h.row.lt k hk).2), h.fit, h.one⟩
theorem BkSt.push {w4 : World} {g0 g cp : Nat} {U : List CUs} {C : List Value} {W W' : World} (h : BkSt w4 g0 g cp U C W) {o : Obj} {g2 cp2 : Nat} {r : CUs} {ha : Option Addr} {c : Nat} (hc : r.us.length ≤ c) (hr : RIz (g0 + 1) w4.heap.size w4 ha r.us)
    (ho : W'.ownsRow g0 36 3 (.slice (some ⟨g2, 0, none⟩) (U.length + 1) cp2) (U.length + 1) (C ++ [.int .i64 r.dl, .int .i64 r.sv, .slice ha r.us.length c])) (hg : (W.alloc o).grownBy W' (Value.ownBlock (.slice (some ⟨g, 0, none⟩) U.length cp))) (hat : Value.ownBlock (.slice (some ⟨g, 0, none⟩) U.length cp) = some g2 ∨ (W.alloc o).heap.size ≤ g2) :
    BkSt w4 g0 g2 cp2 (U ++ [r]) (C ++ [.int .i64 r.dl, .int .i64 r.sv, .slice ha r.us.length c]) W' := by
  have h4 := h.ap.1
  have hl := h.g0l
  have hz : W.heap.size ≤ W'.heap.size := Nat.le_trans (by simp) hg.size
  have hk : ∀ q, q < W.heap.size → q ≠ g → W'.heap[q]? = W.heap[q]? := fun q h1 h2 => (hg.block q (by simp; omega) (fun e => h2 (by simpa [Value.ownBlock] using e))).trans (Below.heap_alloc _ _ _ h1)
  have hgt := h.gat
  refine ⟨⟨Nat.le_trans h4 hz, fun k h1 h2 => (hk k (by omega) (by omega)).trans (h.ap.2 k h1 h2)⟩, ?_, hl, ?_, by rw [List.length_append]; exact ho, h.fit.snoc h.row.1 r ha c hc hr, fun u hu => ?_⟩
  · refine (h.lw.trans ((below_alloc W o).mono (by omega))).grown hg (by simp; omega) (fun q e => ?_)
    have e' : g = q := by simpa [Value.ownBlock] using e
    omega
  · rcases hat with e | e
    · have e' : g = g2 := by simpa [Value.ownBlock] using e
      omega
    · have : W.heap.size ≤ (W.alloc o).heap.size := by simp
      omega
  · rcases List.mem_append.1 hu with h1 | h1
    · exact h.one u h1
    · simp at h1
      rcases h1 with rfl | rfl | rfl <;> rfl

/-- Within the region: the row that is made (va, n, xs), the block of the one use (ob), the block of the answer (ol), as far as they are there. -/
def RSt (wr : World) (va : Option Value) (n : Nat) (xs : List Value) (c3 : Array Value) (ob ol : Option Nat) (W : World) : Prop :=
  Below wr.heap.size wr W ∧ (∀ v, va = some v → W.ownsRow wr.heap.size 36 3 v n xs) ∧
  (∀ k, ob = some k → wr.heap.size ≤ k ∧ W.heap[k]? = some (.cells c3 36 (0, 0)) ∧ ∀ v, va = some v → v.ownBlock ≠ some k) ∧
  ∀ k, ol = some k → wr.heap.size ≤ k ∧ W.heap[k]? = some (.cells #[.int .i64 0, .int .i64 0, .slice none 0 0] 29 (0, 0))
theorem RSt.start (wr : World) (c3 : Array Value) : RSt wr none 0 [] c3 none none wr.drew := ⟨below_drew _, fun _ h => (by cases h), fun _ h => (by cases h), fun _ h => (by cases h)⟩
theorem RSt.mkA {wr : World} {c3 : Array Value} {ob ol : Option Nat} {W : World} (h : RSt wr none 0 [] c3 ob ol W) : RSt wr (some (.slice (some ⟨W.heap.size, 0, none⟩) 0 0)) 0 [] c3 ob ol (W.alloc (Obj.cells #[] 36)) := by
  obtain ⟨h1, h2, h3, h4⟩ := h
  refine ⟨chain h1 (below_alloc _ _), fun v e => ?_, fun k e => ?_, fun k e => ?_⟩
  · cases e
    exact ⟨rfl, .inr ⟨W.heap.size, 0, #[], rfl, h1.size, heapNew W _, Nat.le_refl _, by unfold maxLen; omega, rfl, rfl⟩⟩
  · obtain ⟨k1, k2, k3⟩ := h3 k e
    refine ⟨k1, (Below.heap_alloc _ _ _ (blkLt k2)).trans k2, fun v e' => ?_⟩
    cases e'
    intro e2
    have := blkLt k2
    have e3 : W.heap.size = k := by simpa [Value.ownBlock] using e2
    omega
  · obtain ⟨k1, k2⟩ := h4 k e
    exact ⟨k1, (Below.heap_alloc _ _ _ (blkLt k2)).trans k2⟩
theorem RSt.mkB {wr : World} {va : Option Value} {n : Nat} {xs : List Value} {c3 : Array Value} {ol : Option Nat} {W : World} (h : RSt wr va n xs c3 none ol W) : RSt wr va n xs c3 (some W.heap.size) ol (W.alloc (Obj.cells c3 36)) := by
  obtain ⟨h1, h2, h3, h4⟩ := h
  refine ⟨chain h1 (below_alloc _ _), fun v e => (h2 v e).alloc _, fun k e => ?_, fun k e => ?_⟩
  · cases e
    refine ⟨h1.size, heapNew W _, fun v e' e2 => ?_⟩
    have := (h2 v e').lt _ e2
    omega
  · obtain ⟨k1, k2⟩ := h4 k e
    exact ⟨k1, (Below.heap_alloc _ _ _ (blkLt k2)).trans k2⟩
theorem RSt.mkL {wr : World} {va : Option Value} {n : Nat} {xs : List Value} {c3 : Array Value} {ob : Option Nat} {W : World} (h : RSt wr va n xs c3 ob none W) : RSt wr va n xs c3 ob (some W.heap.size) (W.alloc (Obj.cells #[.int .i64 0, .int .i64 0, .slice none 0 0] 29)) := by
  obtain ⟨h1, h2, h3, h4⟩ := h
  refine ⟨chain h1 (below_alloc _ _), fun v e => (h2 v e).alloc _, fun k e => ?_, fun k e => ?_⟩
  · obtain ⟨k1, k2, k3⟩ := h3 k e
    exact ⟨k1, (Below.heap_alloc _ _ _ (blkLt k2)).trans k2, k3⟩
  · cases e
    exact ⟨h1.size, heapNew W _⟩
theorem RSt.app {wr : World} {v : Value} {n n' : Nat} {xs xs' : List Value} {c3 : Array Value} {ob ol : Option Nat} {W W' : World} {va : Option Addr} {vc : Nat} (h : RSt wr (some v) n xs c3 ob ol W) (ho : W'.ownsRow wr.heap.size 36 3 (.slice va n' vc) n' xs') (hg : W.grownBy W' v.ownBlock) (hat : ∀ q, Value.ownBlock (.slice va n' vc) = some q → v.ownBlock = some q ∨ W.heap.size ≤ q) : RSt wr (some (.slice va n' vc)) n' xs' c3 ob ol W' := by
  obtain ⟨h1, h2, h3, h4⟩ := h
  have h2' := h2 v rfl
  refine ⟨h1.grown hg h1.size (fun k e => (h2'.lt k e).1), fun u e => ?_, fun k e => ?_, fun k e => ?_⟩
  · cases e; exact ho
  · obtain ⟨k1, k2, k3⟩ := h3 k e
    have kn := k3 v rfl
    refine ⟨k1, (hg.block k (blkLt k2) (fun e => kn e.symm)).trans k2, fun u e' e2 => ?_⟩
    cases e'
    rcases hat k e2 with q | q
    · exact kn q
    · have := blkLt k2; omega
  · obtain ⟨k1, k2⟩ := h4 k e
    refine ⟨k1, (hg.block k (blkLt k2) (fun e => ?_)).trans k2⟩
    obtain ⟨cur, hc⟩ := row_type h2' e.symm
    rw [k2] at hc
    simp at hc
theorem RSt.later {wr : World} {va : Option Value} {n : Nat} {xs : List Value} {c3 : Array Value} {ob ol : Option Nat} {W W' : World} (h : RSt wr va n xs c3 ob ol W) (hb : Below W.heap.size W W') : RSt wr va n xs c3 ob ol W' := by
  obtain ⟨h1, h2, h3, h4⟩ := h
  refine ⟨chain h1 hb, fun v e => ownsRow_sameP (h2 v e) (fun k hk => hb.block k ((h2 v e).lt k hk).2), fun k e => ?_, fun k e => ?_⟩
  · obtain ⟨k1, k2, k3⟩ := h3 k e
    exact ⟨k1, (hb.block k (blkLt k2)).trans k2, k3⟩
  · obtain ⟨k1, k2⟩ := h4 k e
    exact ⟨k1, (hb.block k (blkLt k2)).trans k2⟩
theorem RSt.news {wr : World} {va : Option Value} {n : Nat} {xs : List Value} {c3 : Array Value} {k : Nat} {ol : Option Nat} {W : World} (h : RSt wr va n xs c3 (some k) ol W) : 0 < 1 → ∃ ad, (some (⟨k, 0, none⟩ : Addr)) = some ad ∧ ∀ j u, c3.toList[j]? = some u → W.cell? (ad.add j) = some u := fun _ => by
  obtain ⟨_, k2, _⟩ := h.2.2.1 k rfl
  exact ⟨_, rfl, World.news_of_block k2⟩
end Go.Proofs.Ytkfmifbffgbiiaa
