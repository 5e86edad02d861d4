/-
  Contract of the program's WatchOf, for all arguments.
-/
import Derived.Test.YtillkllkekhmfaaFlW
namespace Go.Proofs.Ytillkllkekhmfaa
open Go.ChangeShapes Go.WideShapes Go.ChangeAt Go.RowKit Go.Joins Go.Deep Go.Shelf
set_option linter.unusedVariables false
attribute [local go_sem] Oper.semAt_some run_store_float

theorem Kp1.set {n₀ B : Nat} {W W' : World} (h : Kp1 n₀ B W W') {b : Nat} (hb : n₀ ≤ b) (hB : B ≠ b) (k : Nat) (v : Value) : Kp1 n₀ B W (W'.setCell ⟨b, k, none⟩ v) :=
  ⟨h.1.setCell (p := ⟨b, k, none⟩) hb v, (Below.heap_setCell W' ⟨b, k, none⟩ v B hB).trans h.2⟩
section
variable {W : World} {b : Nat} {v0 v1 v2 v3 v4 : Value} {t : TypeId}
theorem w5_set0 (h : W.heap[b]? = some (.cells #[v0, v1, v2, v3, v4] t (0, 0))) (v : Value) : (W.setCell ⟨b, 0, none⟩ v).heap[b]? = some (.cells #[v, v1, v2, v3, v4] t (0, 0)) := by
  have e := heap_setCell_same _ _ 0 _ _ v h
  simp only [List.setIfInBounds_toArray, List.set_cons_zero] at e
  exact e
theorem w5_set1 (h : W.heap[b]? = some (.cells #[v0, v1, v2, v3, v4] t (0, 0))) (v : Value) : (W.setCell ⟨b, 1, none⟩ v).heap[b]? = some (.cells #[v0, v, v2, v3, v4] t (0, 0)) := by
  have e := heap_setCell_same _ _ 1 _ _ v h
  simp only [List.setIfInBounds_toArray, List.set_cons_zero, List.set_cons_succ] at e
  exact e
theorem w5_set2 (h : W.heap[b]? = some (.cells #[v0, v1, v2, v3, v4] t (0, 0))) (v : Value) : (W.setCell ⟨b, 2, none⟩ v).heap[b]? = some (.cells #[v0, v1, v, v3, v4] t (0, 0)) := by
  have e := heap_setCell_same _ _ 2 _ _ v h
  simp only [List.setIfInBounds_toArray, List.set_cons_zero, List.set_cons_succ] at e
  exact e
theorem w5_set3 (h : W.heap[b]? = some (.cells #[v0, v1, v2, v3, v4] t (0, 0))) (v : Value) : (W.setCell ⟨b, 3, none⟩ v).heap[b]? = some (.cells #[v0, v1, v2, v, v4] t (0, 0)) := by
  have e := heap_setCell_same _ _ 3 _ _ v h
  simp only [List.setIfInBounds_toArray, List.set_cons_zero, List.set_cons_succ] at e
  exact e
theorem w5_set4 (h : W.heap[b]? = some (.cells #[v0, v1, v2, v3, v4] t (0, 0))) (v : Value) : (W.setCell ⟨b, 4, none⟩ v).heap[b]? = some (.cells #[v0, v1, v2, v3, v] t (0, 0)) := by
  have e := heap_setCell_same _ _ 4 _ _ v h
  simp only [List.setIfInBounds_toArray, List.set_cons_zero, List.set_cons_succ] at e
  exact e
end
/-- What the loop holds: the watch in block D, the sum behind it. -/
structure WtI (w : World) (D : Nat) (n g : Int) (m lo hi s : Nat) (W : World) : Prop where
  low : w.heap.size < D
  box : W.heap[D]? = some (.cells #[.int .i64 n, .int .i64 g, .float .f64 m, .float .f64 lo, .float .f64 hi] 28 (0, 0))
  sum : W.heap[D + 1]? = some (.cells #[.float .f64 s] 24 (0, 0))
  res : W.heap[w.heap.size]? = some (.cells #[.int .i64 0, .int .i64 0, .float .f64 0, .float .f64 0, .float .f64 0] 28 (0, 0))
  bel : Below w.heap.size w W
theorem WtI.cells {w : World} {D : Nat} {n g : Int} {m lo hi s : Nat} {W : World} (h : WtI w D n g m lo hi s W) :
    (W.cell? ⟨D, 0, none⟩ = some (.int .i64 n) ∧ W.frozen? ⟨D, 0, none⟩ = false) ∧ (W.cell? ⟨D, 1, none⟩ = some (.int .i64 g) ∧ W.frozen? ⟨D, 1, none⟩ = false) ∧ (W.cell? ⟨D, 2, none⟩ = some (.float .f64 m) ∧ W.frozen? ⟨D, 2, none⟩ = false) ∧ (W.cell? ⟨D, 3, none⟩ = some (.float .f64 lo) ∧ W.frozen? ⟨D, 3, none⟩ = false) ∧ (W.cell? ⟨D, 4, none⟩ = some (.float .f64 hi) ∧ W.frozen? ⟨D, 4, none⟩ = false) ∧ (W.cell? ⟨D + 1, 0, none⟩ = some (.float .f64 s) ∧ W.frozen? ⟨D + 1, 0, none⟩ = false) :=
  ⟨⟨blkCell h.box 0 _ rfl, blkFree h.box 0⟩, ⟨blkCell h.box 1 _ rfl, blkFree h.box 1⟩, ⟨blkCell h.box 2 _ rfl, blkFree h.box 2⟩, ⟨blkCell h.box 3 _ rfl, blkFree h.box 3⟩, ⟨blkCell h.box 4 _ rfl, blkFree h.box 4⟩, ⟨blkCell h.sum 0 _ rfl, blkFree h.sum 0⟩⟩
section
variable {w : World} {D : Nat} {n g : Int} {m lo hi s : Nat} {W : World} (h : WtI w D n g m lo hi s W)
include h
theorem WtI.far (k : Nat) (v : Value) : (W.setCell ⟨D, k, none⟩ v).heap[D + 1]? = W.heap[D + 1]? ∧ (W.setCell ⟨D, k, none⟩ v).heap[w.heap.size]? = W.heap[w.heap.size]? ∧ Below w.heap.size w (W.setCell ⟨D, k, none⟩ v) := by
  have := h.low
  exact ⟨Below.heap_setCell _ _ _ _ (by show D + 1 ≠ D; omega), Below.heap_setCell _ _ _ _ (by show w.heap.size ≠ D; omega), h.bel.setCell (p := ⟨D, k, none⟩) (by show w.heap.size ≤ D; omega) v⟩
theorem WtI.s0 (x : Int) : WtI w D x g m lo hi s (W.setCell ⟨D, 0, none⟩ (.int .i64 x)) := let f := h.far 0 (.int .i64 x); ⟨h.low, w5_set0 h.box _, f.1.trans h.sum, f.2.1.trans h.res, f.2.2⟩
theorem WtI.s1 (x : Int) : WtI w D n x m lo hi s (W.setCell ⟨D, 1, none⟩ (.int .i64 x)) := let f := h.far 1 (.int .i64 x); ⟨h.low, w5_set1 h.box _, f.1.trans h.sum, f.2.1.trans h.res, f.2.2⟩
theorem WtI.s2 (x : Nat) : WtI w D n g x lo hi s (W.setCell ⟨D, 2, none⟩ (.float .f64 x)) := let f := h.far 2 (.float .f64 x); ⟨h.low, w5_set2 h.box _, f.1.trans h.sum, f.2.1.trans h.res, f.2.2⟩
theorem WtI.s3 (x : Nat) : WtI w D n g m x hi s (W.setCell ⟨D, 3, none⟩ (.float .f64 x)) := let f := h.far 3 (.float .f64 x); ⟨h.low, w5_set3 h.box _, f.1.trans h.sum, f.2.1.trans h.res, f.2.2⟩
theorem WtI.s4 (x : Nat) : WtI w D n g m lo x s (W.setCell ⟨D, 4, none⟩ (.float .f64 x)) := let f := h.far 4 (.float .f64 x); ⟨h.low, w5_set4 h.box _, f.1.trans h.sum, f.2.1.trans h.res, f.2.2⟩
theorem WtI.s5 (x : Nat) : WtI w D n g m lo hi x (W.setCell ⟨D + 1, 0, none⟩ (.float .f64 x)) := by
  have := h.low
  exact ⟨h.low, (Below.heap_setCell _ _ _ _ (by show D ≠ D + 1; omega)).trans h.box, by
    have e := heap_setCell_same _ _ 0 _ _ (.float .f64 x) h.sum
    simp only [List.setIfInBounds_toArray, List.set_cons_zero] at e
    exact e, (Below.heap_setCell _ _ _ _ (by show w.heap.size ≠ D + 1; omega)).trans h.res, h.bel.setCell (p := ⟨D + 1, 0, none⟩) (by show w.heap.size ≤ D + 1; omega) _⟩
end
theorem WtI.later {w : World} {D : Nat} {n g : Int} {m lo hi s : Nat} {W W' : World} (h : WtI w D n g m lo hi s W) (hb : Below W.heap.size W W') : WtI w D n g m lo hi s W' :=
  ⟨h.low, (hb.block D (blkLt h.box)).trans h.box, (hb.block _ (blkLt h.sum)).trans h.sum, (hb.block _ (blkLt h.res)).trans h.res, chain h.bel hb⟩
theorem blk_keptF {W W' : World} {row : Option Nat} {B : Nat} {V : Array Value} {t : TypeId} {fr : Nat × Nat} (h : W.heap[B]? = some (.cells V t fr)) (hg : W.grownBy W' row) (hr : ∀ r, row = some r → ∃ o : Obj, W.heap[r]? = some o ∧ o.isCells = false) : W'.heap[B]? = some (.cells V t fr) :=
  (hg.block B (blkLt h) (fun e => by obtain ⟨o, ho, hc⟩ := hr B e.symm; rw [h] at ho; cases ho; cases hc)).trans h
theorem WtI.kept {w : World} {D N : Nat} {n g : Int} {m lo hi s : Nat} {W W' : World} (h : WtI w D n g m lo hi s W) (hN : w.heap.size ≤ N) {row : Option Nat} (hg : W.grownBy W' row) (hr : ∀ r, row = some r → N ≤ r ∧ ∃ o : Obj, W.heap[r]? = some o ∧ o.isCells = false) : WtI w D n g m lo hi s W' :=
  ⟨h.low, blk_keptF h.box hg (fun r e => (hr r e).2), blk_keptF h.sum hg (fun r e => (hr r e).2), blk_keptF h.res hg (fun r e => (hr r e).2), h.bel.grown hg (by have := h.bel.size; omega) (fun k e => Nat.le_trans hN (hr k e).1)⟩
theorem wtInfo : (Try.prog.info? 28).map (·.size) = some 5 := by kernel_rfl
theorem implWatch_fault (a : Option Addr) (cap : Nat) (xs : List Nat) (hl : xs.length ≤ 100000000) (w : World) (hr : ReadsF w.heap.size w a xs) (h : trC xs ≠ 0) :
    Calls Try.prog 10 #[.slice a xs.length cap] w (AnsWt w ⟨0, 0, 0, 0, 0, trC xs⟩) := by
  have HT : Hid (∀ W, Below w.heap.size w W → Calls Try.prog 33 #[.slice a xs.length cap] W fun e w' => e = .returned (.int .i64 (trC xs)) ∧ Below W.heap.size W w') := fun W hb => traceFault_any a cap xs hl W (hr.later hb)
  clear hr
  unfold AnsWt
  generalize trC xs = c at *
  have hc : (c != 0) = true := by simp [h]
  go_enter Try.func10, Try.ntmps10
  go_wp2_with fail
  (first | go_at_call 33 | skip)
  refine (HT.out _ (below_alloc _ _)).mono ?_
  rintro e w1 ⟨rfl, hb1⟩
  have q := hb1.block w.heap.size (by simp)
  rw [heapNew] at q
  have HQ : Hid (w1.heap[w.heap.size]? = some (.cells #[.int .i64 0, .int .i64 0, .float .f64 0, .float .f64 0, .float .f64 0] 28 (0, 0))) := q
  have HB : Hid (Below w.heap.size w w1) := chain (below_alloc _ _) hb1
  have q0 := blkCell q 0 _ rfl
  have q1 := blkCell q 1 _ rfl
  have q2 := blkCell q 2 _ rfl
  have q3 := blkCell q 3 _ rfl
  have q4 := blkCell q 4 _ rfl
  have f0 := blkFree q 0
  have f1 := blkFree q 1
  have f2 := blkFree q 2
  have f3 := blkFree q 3
  have f4 := blkFree q 4
  simp only [List.getElem_toArray, List.getElem_cons_zero, List.getElem_cons_succ] at q0 q1 q2 q3 q4
  clear q hb1
  go_wp2
  refine bodyPost_ret (v := .tuple #[.agg #[.int .i64 0, .int .i64 0, .float .f64 0, .float .f64 0, .float .f64 0], .int .i64 c]) (by simp [results, Try.results10, go_sem, q0, q1, q2, q3, q4]) rfl ⟨rfl, ?_⟩
  exact ((((HB.out.setCell (p := ⟨w.heap.size, 0, none⟩) (Nat.le_refl _) _).setCell (p := ⟨w.heap.size, 1, none⟩) (Nat.le_refl _) _).setCell (p := ⟨w.heap.size, 2, none⟩) (Nat.le_refl _) _).setCell (p := ⟨w.heap.size, 3, none⟩) (Nat.le_refl _) _).setCell (p := ⟨w.heap.size, 4, none⟩) (Nat.le_refl _) _
theorem watch_end {w W5 : World} {F : Nat} {n g : Int} {m lo hi : Nat} {c : Int} {ts : Array Value} (h2 : ts.getD 2 undef = .pointer (some ⟨w.heap.size, 0, none⟩)) (h3 : ts.getD 3 undef = .int .i64 c) (hFR : w.heap.size ≠ F) (hF : w.heap.size ≤ F)
    (r1 : W5.heap[w.heap.size]? = some (.cells #[.int .i64 n, .int .i64 g, .float .f64 m, .float .f64 lo, .float .f64 hi] 28 (0, 0))) (r2 : W5.heap[F]? = some (.deferred (some []))) (r3 : Below w.heap.size w W5) :
    bodyPostM Fence.wide 9 Try.prog Try.f10 (AnsWt w ⟨n, g, m, lo, hi, c⟩) .ret { tmps := ts, defers := [{ target := .collected F, args := #[] }] } W5 := by
  refine ⟨by simp, .inl ⟨_, _, rfl, run_takeDeferred r2, ?_⟩⟩
  have r4 : (W5.putObj F (.deferred none)).heap[w.heap.size]? = some (.cells #[.int .i64 n, .int .i64 g, .float .f64 m, .float .f64 lo, .float .f64 hi] 28 (0, 0)) := (World.putObj_heap_other hFR).trans r1
  have q0 := blkCell r4 0 _ rfl
  have q1 := blkCell r4 1 _ rfl
  have q2 := blkCell r4 2 _ rfl
  have q3 := blkCell r4 3 _ rfl
  have q4 := blkCell r4 4 _ rfl
  simp only [List.getElem_toArray, List.getElem_cons_zero, List.getElem_cons_succ] at q0 q1 q2 q3 q4
  have h2' : ts[2]?.getD undef = .pointer (some ⟨w.heap.size, 0, none⟩) := by simpa using h2
  have h3' : ts[3]?.getD undef = .int .i64 c := by simpa using h3
  refine ⟨.tuple #[.agg #[.int .i64 n, .int .i64 g, .float .f64 m, .float .f64 lo, .float .f64 hi], .int .i64 c], ?_, rfl, r3.trans (belowK_b (w := w) (Nat.le_refl _) _ F _ _ hF r2 rfl rfl)⟩
  simp [results, Try.results10, go_sem, q0, q1, q2, q3, q4, h2', h3']
set_option maxRecDepth 100000 in
set_option maxHeartbeats 16000000 in
theorem implWatch_right (a : Option Addr) (cap : Nat) (xs : List Nat) (h : trC xs = 0) (w : World) (hr : ReadsF w.heap.size w a xs) :
    Calls Try.prog 10 #[.slice a xs.length cap] w (AnsWt w (wtA xs)) := by
  obtain ⟨hlen, hok⟩ := trC_right h
  have HT : Hid (∀ W, Below w.heap.size w W → Calls Try.prog 33 #[.slice a xs.length cap] W fun e w' => e = .returned (.int .i64 0) ∧ Below W.heap.size W w') := fun W hb => by rw [← h]; exact traceFault_any a cap xs (by omega) W (hr.later hb)
  have HA0 : Hid ((thT xs xs.length).length = 0 → wtA xs = ⟨0, 0, 0, 0, 0, 8⟩) := fun h2 => by unfold wtA; rw [if_pos h, if_pos h2]
  have HA1 : Hid ((thT xs xs.length).length ≠ 0 → wtA xs = ⟨(thT xs xs.length).length, (xs.length : Int) - (thT xs xs.length).length, fdiv (wtS (thT xs xs.length)).s (floatOfInt .f64 ((thT xs xs.length).length : Int)), (wtS (thT xs xs.length)).lo, (wtS (thT xs xs.length)).hi, 0⟩) := fun h2 => by unfold wtA; rw [if_pos h, if_neg h2]
  generalize wtA xs = ans at *
  have HR : Hid (ReadsF w.heap.size w a xs) := hr
  clear hr h
  refine (callsIn_wide (n := 9)).1 ?_
  refine callsIn_of_wp_marks Try.func10 rfl trivial ?_ rfl
  simp only [Try.ntmps10, List.size_toArray, List.length_cons, List.length_nil, Nat.reduceAdd, Nat.reduceSub, Array.replicate_succ, Array.replicate_zero, List.push_toArray, List.append_toArray, List.nil_append, List.cons_append]
  gi_wp2_with fail
  refine ⟨trivial, (callsIn_wide.2 (HT.out _ (below_alloc _ _))).mono ?_⟩
  rintro e w1 ⟨rfl, hb1⟩
  have q := hb1.block w.heap.size (by simp)
  rw [heapNew] at q
  have HQ : Hid (w1.heap[w.heap.size]? = some (.cells #[.int .i64 0, .int .i64 0, .float .f64 0, .float .f64 0, .float .f64 0] 28 (0, 0))) := q
  have HB1 : Hid (Below w.heap.size w w1) := chain (below_alloc _ _) hb1
  have hlow : w.heap.size < w1.heap.size := blkLt q
  clear q hb1 HT
  gi_wp2_with fail
  refine ⟨trivial, (callsIn_wide.2 (thereF_any _ _ _ _)).mono ?_⟩
  rintro e w2 ⟨rfl, hw2⟩
  obtain ⟨w3, hw3⟩ : ∃ w3, w3 = (w1.alloc (Obj.cells #[.int .i64 0, .int .i64 0, .float .f64 0, .float .f64 0, .float .f64 0] 28)).alloc (Obj.cells #[.float .f64 0] 24) := ⟨_, rfl⟩
  have hz3 : w3.heap.size = w1.heap.size + 1 + 1 := by rw [hw3]; simp
  have hI3 : WtI w w1.heap.size 0 0 0 0 0 0 w3 := by
    rw [hw3]
    exact ⟨hlow, (Below.heap_alloc _ _ _ (by simp)).trans (heapNew _ _), by have := heapNew (w1.alloc (Obj.cells #[.int .i64 0, .int .i64 0, .float .f64 0, .float .f64 0, .float .f64 0] 28)) (Obj.cells #[.float .f64 0] 24); rwa [World.size_alloc] at this,
      (Below.heap_alloc _ _ _ (by simp; omega)).trans ((Below.heap_alloc _ _ _ hlow).trans HQ.out), chain (chain HB1.out (below_alloc _ _)) (below_alloc _ _)⟩
  rw [← hw3] at hw2 ⊢
  have hI2 : WtI w w1.heap.size 0 0 0 0 0 0 w2 := by rw [hw2]; exact hI3.later (below_alloc _ _)
  have hl2 : w2.heap[w1.heap.size + 1 + 1]? = some (.cells #[.slice a xs.length cap] 23 (0, 0)) := by
    rw [hw2]
    have := heapNew w3 (Obj.cells #[.slice a xs.length cap] 23)
    rwa [hz3] at this
  rw [hz3]
  have hz2 : w2.heap.size = w1.heap.size + 1 + 1 + 1 := by rw [hw2]; simp [hz3]
  clear hw2 hw3 hI3 HQ
  gi_wp2_with fail
  generalize w1.heap.size = D at *
  refine wpIn_rangeFunc_ownG rfl (by decide) (gf := 54) (lb := #[.pointer (some ⟨D + 1 + 1, 0, none⟩)]) rfl trivial (enters_of Try.func54 (by kernel_rfl) rfl)
    (there1_stops (9 - 1) (D + 1 + 1) w.heap.size a cap xs (by omega) hok w2 (by omega) hl2 (HR.out.below hI2.bel)) (fun h k => h.trans k) (Kp1.put (by omega) (by omega)) (Below.refl _ _) (fun _ => rfl)
    (fun pre W => WtI w D (pre.length : Int) 0 0 (wtS pre).lo (wtS pre).hi (wtS pre).s W)
    (fun _ _ _ => False)
    (fun pre A B row hs hg hr => hs.kept (by omega) hg hr)
    (fun _ _ _ _ _ hs _ _ => hs)
    hI2
    ?a1 ?assign ?body ?done ?stop
  case assign =>
    intro l x W K hK
    gi_wp2
    exact hK
  case body =>
    rintro l pre x W hI hlt
    have hadd := wtS_add pre x (by omega)
    have HF0 : Hid (∀ W', WtI w D ((pre.length : Int) + 1) 0 0 (if (decide (pre.length = 0) || ltF x.1.2 (wtS pre).lo) = true then x.1.2 else (wtS pre).lo) (if (decide (pre.length = 0) || ltF (wtS pre).hi x.1.2) = true then x.1.2 else (wtS pre).hi) (fadd (wtS pre).s x.1.2) W' →
        WtI w D ((pre ++ [x]).length : Int) 0 0 (wtS (pre ++ [x])).lo (wtS (pre ++ [x])).hi (wtS (pre ++ [x])).s W') := fun W' h => by
      have e := wtS_n pre
      rw [wtS_snoc, List.length_append]
      rw [← e] at h
      unfold wtN
      rw [← e]
      exact h
    have hL := o_lt x.1.2 (wtS pre).lo
    have hG := o_gt x.1.2 (wtS pre).hi
    have hrun := fun t W => run_float_arith (P := Try.prog) W .add t .f64 _ _ _ hadd
    have hlo := hI.low
    generalize ltF x.1.2 (wtS pre).lo = b1 at *
    generalize ltF (wtS pre).hi x.1.2 = b2 at *
    generalize fadd (wtS pre).s x.1.2 = r at *
    generalize (wtS pre).s = s at *
    generalize (wtS pre).lo = lo at *
    generalize (wtS pre).hi = hi at *
    generalize x.1.2 = xv at *
    have hw1 : IntKind.i64.wrap ((pre.length : Int) + 1) = (pre.length : Int) + 1 := wrap_id _ (by omega) (by omega)
    have hD : w.heap.size < D := hI.low
    clear hadd
    by_cases h0 : pre.length = 0
    · have hn : ((pre.length : Int) == 0) = true := by rw [h0]; rfl
      rw [decide_eq_true h0] at HF0
      have HF := HF0
      generalize (pre.length : Int) = n at *
      obtain ⟨⟨a0, a0f⟩, _, _, ⟨a3, a3f⟩, ⟨a4, a4f⟩, ⟨a5, a5f⟩⟩ := hI.cells
      obtain ⟨⟨b0, b0f⟩, _, _, ⟨b3, b3f⟩, ⟨b4, b4f⟩, ⟨b5, b5f⟩⟩ := (hI.s3 xv).cells
      obtain ⟨⟨c0, c0f⟩, _, _, ⟨c3, c3f⟩, ⟨c4, c4f⟩, ⟨c5, c5f⟩⟩ := ((hI.s3 xv).s4 xv).cells
      obtain ⟨⟨d0, d0f⟩, _, _, ⟨d3, d3f⟩, ⟨d4, d4f⟩, ⟨d5, d5f⟩⟩ := (((hI.s3 xv).s4 xv).s0 (n + 1)).cells
      gi_wp2
      exact ⟨((((KeepsOthers.setCell _ _ _).trans (KeepsOthers.setCell _ _ _)).trans (KeepsOthers.setCell _ _ _)).trans (KeepsOthers.setCell _ _ _)).from _, ((((Kp1.refl _ _ _).set (b := D) (by omega) (by omega) 3 _).set (b := D) (by omega) (by omega) 4 _).set (b := D) (by omega) (by omega) 0 _).set (b := D + 1) (by omega) (by omega) 0 _, HF.out _ ((((hI.s3 xv).s4 xv).s0 (n + 1)).s5 r)⟩
    · have hn : ((pre.length : Int) == 0) = false := beq_eq_false_iff_ne.2 (by omega)
      rw [decide_eq_false h0] at HF0
      have HF := HF0
      generalize (pre.length : Int) = n at *
      cases b1
      · cases b2
        · obtain ⟨⟨a0, a0f⟩, _, _, ⟨a3, a3f⟩, ⟨a4, a4f⟩, ⟨a5, a5f⟩⟩ := hI.cells
          obtain ⟨⟨d0, d0f⟩, _, _, ⟨d3, d3f⟩, ⟨d4, d4f⟩, ⟨d5, d5f⟩⟩ := (hI.s0 (n + 1)).cells
          gi_wp2
          exact ⟨((KeepsOthers.setCell _ _ _).trans (KeepsOthers.setCell _ _ _)).from _, ((Kp1.refl _ _ _).set (b := D) (by omega) (by omega) 0 _).set (b := D + 1) (by omega) (by omega) 0 _, HF.out _ ((hI.s0 (n + 1)).s5 r)⟩
        · obtain ⟨⟨a0, a0f⟩, _, _, ⟨a3, a3f⟩, ⟨a4, a4f⟩, ⟨a5, a5f⟩⟩ := hI.cells
          obtain ⟨⟨c0, c0f⟩, _, _, ⟨c3, c3f⟩, ⟨c4, c4f⟩, ⟨c5, c5f⟩⟩ := (hI.s4 xv).cells
          obtain ⟨⟨d0, d0f⟩, _, _, ⟨d3, d3f⟩, ⟨d4, d4f⟩, ⟨d5, d5f⟩⟩ := ((hI.s4 xv).s0 (n + 1)).cells
          gi_wp2
          exact ⟨(((KeepsOthers.setCell _ _ _).trans (KeepsOthers.setCell _ _ _)).trans (KeepsOthers.setCell _ _ _)).from _, (((Kp1.refl _ _ _).set (b := D) (by omega) (by omega) 4 _).set (b := D) (by omega) (by omega) 0 _).set (b := D + 1) (by omega) (by omega) 0 _, HF.out _ (((hI.s4 xv).s0 (n + 1)).s5 r)⟩
      · cases b2
        · obtain ⟨⟨a0, a0f⟩, _, _, ⟨a3, a3f⟩, ⟨a4, a4f⟩, ⟨a5, a5f⟩⟩ := hI.cells
          obtain ⟨⟨b0, b0f⟩, _, _, ⟨b3, b3f⟩, ⟨b4, b4f⟩, ⟨b5, b5f⟩⟩ := (hI.s3 xv).cells
          obtain ⟨⟨d0, d0f⟩, _, _, ⟨d3, d3f⟩, ⟨d4, d4f⟩, ⟨d5, d5f⟩⟩ := ((hI.s3 xv).s0 (n + 1)).cells
          gi_wp2
          exact ⟨(((KeepsOthers.setCell _ _ _).trans (KeepsOthers.setCell _ _ _)).trans (KeepsOthers.setCell _ _ _)).from _, (((Kp1.refl _ _ _).set (b := D) (by omega) (by omega) 3 _).set (b := D) (by omega) (by omega) 0 _).set (b := D + 1) (by omega) (by omega) 0 _, HF.out _ (((hI.s3 xv).s0 (n + 1)).s5 r)⟩
        · obtain ⟨⟨a0, a0f⟩, _, _, ⟨a3, a3f⟩, ⟨a4, a4f⟩, ⟨a5, a5f⟩⟩ := hI.cells
          obtain ⟨⟨b0, b0f⟩, _, _, ⟨b3, b3f⟩, ⟨b4, b4f⟩, ⟨b5, b5f⟩⟩ := (hI.s3 xv).cells
          obtain ⟨⟨c0, c0f⟩, _, _, ⟨c3, c3f⟩, ⟨c4, c4f⟩, ⟨c5, c5f⟩⟩ := ((hI.s3 xv).s4 xv).cells
          obtain ⟨⟨d0, d0f⟩, _, _, ⟨d3, d3f⟩, ⟨d4, d4f⟩, ⟨d5, d5f⟩⟩ := (((hI.s3 xv).s4 xv).s0 (n + 1)).cells
          gi_wp2
          exact ⟨((((KeepsOthers.setCell _ _ _).trans (KeepsOthers.setCell _ _ _)).trans (KeepsOthers.setCell _ _ _)).trans (KeepsOthers.setCell _ _ _)).from _, ((((Kp1.refl _ _ _).set (b := D) (by omega) (by omega) 3 _).set (b := D) (by omega) (by omega) 4 _).set (b := D) (by omega) (by omega) 0 _).set (b := D + 1) (by omega) (by omega) 0 _, HF.out _ ((((hI.s3 xv).s4 xv).s0 (n + 1)).s5 r)⟩
  case done =>
    rintro F ys W hF rfl hI hK
    have hD : w.heap.size < D := hI.low
    have hlt0 : w.heap.size < W.heap.size := blkLt hI.res
    have hFR : w.heap.size ≠ F := fun e => by rw [← e] at hK; rw [hI.res] at hK; cases hK
    have hnl : (thT xs xs.length).length ≤ xs.length := thT_len xs _
    by_cases h0 : (thT xs xs.length).length = 0
    · have HA := HA0.out h0
      have hn : (((thT xs xs.length).length : Int) == 0) = true := by rw [h0]; rfl
      subst HA
      generalize ((thT xs xs.length).length : Int) = n at *
      obtain ⟨⟨a0, a0f⟩, _, _, _, _, _⟩ := hI.cells
      have q0 := blkCell hI.res 0 _ rfl
      have q1 := blkCell hI.res 1 _ rfl
      have q2 := blkCell hI.res 2 _ rfl
      have q3 := blkCell hI.res 3 _ rfl
      have q4 := blkCell hI.res 4 _ rfl
      have f0 := blkFree hI.res 0
      have f1 := blkFree hI.res 1
      have f2 := blkFree hI.res 2
      have f3 := blkFree hI.res 3
      have f4 := blkFree hI.res 4
      simp only [List.getElem_toArray, List.getElem_cons_zero, List.getElem_cons_succ] at q0 q1 q2 q3 q4
      have HFin : Hid (∀ W5, W5 = ((((W.setCell ⟨w.heap.size, 0, none⟩ (.int .i64 0)).setCell ⟨w.heap.size, 1, none⟩ (.int .i64 0)).setCell ⟨w.heap.size, 2, none⟩ (.float .f64 0)).setCell ⟨w.heap.size, 3, none⟩ (.float .f64 0)).setCell ⟨w.heap.size, 4, none⟩ (.float .f64 0) →
          W5.heap[w.heap.size]? = some (.cells #[.int .i64 0, .int .i64 0, .float .f64 0, .float .f64 0, .float .f64 0] 28 (0, 0)) ∧ W5.heap[F]? = some (.deferred (some [])) ∧ Below w.heap.size w W5) := fun W5 e => by
        subst e
        refine ⟨w5_set4 (w5_set3 (w5_set2 (w5_set1 (w5_set0 hI.res _) _) _) _) _, ?_, ((((hI.bel.setCell (p := ⟨w.heap.size, 0, none⟩) (Nat.le_refl _) _).setCell (p := ⟨w.heap.size, 1, none⟩) (Nat.le_refl _) _).setCell (p := ⟨w.heap.size, 2, none⟩) (Nat.le_refl _) _).setCell (p := ⟨w.heap.size, 3, none⟩) (Nat.le_refl _) _).setCell (p := ⟨w.heap.size, 4, none⟩) (Nat.le_refl _) _⟩
        rw [Below.heap_setCell _ _ _ _ (Ne.symm hFR), Below.heap_setCell _ _ _ _ (Ne.symm hFR), Below.heap_setCell _ _ _ _ (Ne.symm hFR), Below.heap_setCell _ _ _ _ (Ne.symm hFR), Below.heap_setCell _ _ _ _ (Ne.symm hFR)]
        exact hK
      clear hI
      gi_wp2
      obtain ⟨r1, r2, r3⟩ := HFin.out _ rfl
      exact watch_end rfl rfl hFR (by omega) r1 r2 r3
    · have HA := HA1.out h0
      have hn : (((thT xs xs.length).length : Int) == 0) = false := beq_eq_false_iff_ne.2 (by omega)
      subst HA
      have hc := fun W => run_convert_int_float (P := Try.prog) W 3 24 .i64 .f64 ((thT xs xs.length).length : Int) (by rw [Try.underlying3]; rfl) Try.underlying24
      have hdv := fdiv_some (wtS_fin (thT xs xs.length) (by omega)) (int_float (n := (thT xs xs.length).length) (by omega) (by omega))
      have hrun := fun t W => run_float_arith (P := Try.prog) W .quo t .f64 _ _ _ hdv
      have hw1 : IntKind.i64.wrap ((xs.length : Int) - ((thT xs xs.length).length : Int)) = (xs.length : Int) - ((thT xs xs.length).length : Int) := wrap_id _ (by omega) (by omega)
      generalize fdiv (wtS (thT xs xs.length)).s (floatOfInt .f64 ((thT xs xs.length).length : Int)) = mean at *
      generalize floatOfInt .f64 ((thT xs xs.length).length : Int) = fc at *
      generalize ((thT xs xs.length).length : Int) = n at *
      generalize (wtS (thT xs xs.length)).s = s at *
      generalize (wtS (thT xs xs.length)).lo = lo at *
      generalize (wtS (thT xs xs.length)).hi = hi at *
      clear hdv HA0 HA1
      obtain ⟨⟨a0, a0f⟩, ⟨a1, a1f⟩, _, _, _, _⟩ := hI.cells
      have I1 := hI.s1 ((xs.length : Int) - n)
      obtain ⟨⟨b0, b0f⟩, ⟨b1, b1f⟩, ⟨b2, b2f⟩, _, _, ⟨b5, b5f⟩⟩ := I1.cells
      have I2 := I1.s2 mean
      obtain ⟨⟨c0, c0f⟩, ⟨c1, c1f⟩, ⟨c2, c2f⟩, ⟨c3, c3f⟩, ⟨c4, c4f⟩, ⟨c5, c5f⟩⟩ := I2.cells
      have q0 := blkCell I2.res 0 _ rfl
      have q1 := blkCell I2.res 1 _ rfl
      have q2 := blkCell I2.res 2 _ rfl
      have q3 := blkCell I2.res 3 _ rfl
      have q4 := blkCell I2.res 4 _ rfl
      have f0 := blkFree I2.res 0
      have f1 := blkFree I2.res 1
      have f2 := blkFree I2.res 2
      have f3 := blkFree I2.res 3
      have f4 := blkFree I2.res 4
      simp only [List.getElem_toArray, List.getElem_cons_zero, List.getElem_cons_succ] at q0 q1 q2 q3 q4
      have hFD : F ≠ D := fun e => by rw [e] at hK; rw [hI.box] at hK; cases hK
      have HFin : Hid (∀ W2, WtI w D n ((xs.length : Int) - n) mean lo hi s W2 → W2.heap[F]? = some (.deferred (some [])) → ∀ W5, W5 = ((((W2.setCell ⟨w.heap.size, 0, none⟩ (.int .i64 n)).setCell ⟨w.heap.size, 1, none⟩ (.int .i64 ((xs.length : Int) - n))).setCell ⟨w.heap.size, 2, none⟩ (.float .f64 mean)).setCell ⟨w.heap.size, 3, none⟩ (.float .f64 lo)).setCell ⟨w.heap.size, 4, none⟩ (.float .f64 hi) →
          W5.heap[w.heap.size]? = some (.cells #[.int .i64 n, .int .i64 ((xs.length : Int) - n), .float .f64 mean, .float .f64 lo, .float .f64 hi] 28 (0, 0)) ∧ W5.heap[F]? = some (.deferred (some [])) ∧ Below w.heap.size w W5) := fun W2 I2 hK2 W5 e => by
        subst e
        refine ⟨w5_set4 (w5_set3 (w5_set2 (w5_set1 (w5_set0 I2.res _) _) _) _) _, ?_, ((((I2.bel.setCell (p := ⟨w.heap.size, 0, none⟩) (Nat.le_refl _) _).setCell (p := ⟨w.heap.size, 1, none⟩) (Nat.le_refl _) _).setCell (p := ⟨w.heap.size, 2, none⟩) (Nat.le_refl _) _).setCell (p := ⟨w.heap.size, 3, none⟩) (Nat.le_refl _) _).setCell (p := ⟨w.heap.size, 4, none⟩) (Nat.le_refl _) _⟩
        rw [Below.heap_setCell _ _ _ _ (Ne.symm hFR), Below.heap_setCell _ _ _ _ (Ne.symm hFR), Below.heap_setCell _ _ _ _ (Ne.symm hFR), Below.heap_setCell _ _ _ _ (Ne.symm hFR), Below.heap_setCell _ _ _ _ (Ne.symm hFR)]
        exact hK2
      have HI2 : Hid (WtI w D n ((xs.length : Int) - n) mean lo hi s ((W.setCell ⟨D, 1, none⟩ (.int .i64 ((xs.length : Int) - n))).setCell ⟨D, 2, none⟩ (.float .f64 mean))) := I2
      have HK2 : Hid (((W.setCell ⟨D, 1, none⟩ (.int .i64 ((xs.length : Int) - n))).setCell ⟨D, 2, none⟩ (.float .f64 mean)).heap[F]? = some (.deferred (some []))) := by
        show _ = _
        rw [Below.heap_setCell _ _ _ _ hFD, Below.heap_setCell _ _ _ _ hFD]
        exact hK
      clear hI I1 I2
      gi_wp2
      obtain ⟨r1, r2, r3⟩ := HFin.out _ HI2.out HK2.out _ rfl
      exact watch_end rfl rfl hFR (by omega) r1 r2 r3
  case stop =>
    rintro F c pre W _ _ h _
    exact h.elim
end Go.Proofs.Ytillkllkekhmfaa
