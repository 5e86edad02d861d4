/-
  Contract of the specification's WatchOf, for all arguments.
-/
import Derived.Test.YtillkllkekhmfaaFlE
namespace Go.Proofs.Ytillkllkekhmfaa
open Go.ChangeShapes Go.WideShapes Go.ChangeAt Go.RowKit Go.Joins Go.Deep Go.Shelf
set_option linter.unusedVariables false
attribute [local go_sem] Oper.semAt_some run_store_float

/-- What the specification's loop holds: the watch in block D. -/
structure SwI (w : World) (D : Nat) (n g : Int) (m lo hi : Nat) (W : World) : Prop where
  low : w.heap.size < D
  box : W.heap[D]? = some (.cells #[.int .i64 n, .int .i64 g, .float .f64 m, .float .f64 lo, .float .f64 hi] 28 (0, 0))
  res : W.heap[w.heap.size]? = some (.cells #[.int .i64 0, .int .i64 0, .float .f64 0, .float .f64 0, .float .f64 0] 28 (0, 0))
  bel : Below w.heap.size w W
theorem SwI.cells {w : World} {D : Nat} {n g : Int} {m lo hi : Nat} {W : World} (h : SwI w D n g m lo hi W) :
    (W.cell? ⟨D, 0, none⟩ = some (.int .i64 n) ∧ W.frozen? ⟨D, 0, none⟩ = false) ∧ (W.cell? ⟨D, 1, none⟩ = some (.int .i64 g) ∧ W.frozen? ⟨D, 1, none⟩ = false) ∧ (W.cell? ⟨D, 2, none⟩ = some (.float .f64 m) ∧ W.frozen? ⟨D, 2, none⟩ = false) ∧ (W.cell? ⟨D, 3, none⟩ = some (.float .f64 lo) ∧ W.frozen? ⟨D, 3, none⟩ = false) ∧ (W.cell? ⟨D, 4, none⟩ = some (.float .f64 hi) ∧ W.frozen? ⟨D, 4, none⟩ = false) :=
  ⟨⟨blkCell h.box 0 _ rfl, blkFree h.box 0⟩, ⟨blkCell h.box 1 _ rfl, blkFree h.box 1⟩, ⟨blkCell h.box 2 _ rfl, blkFree h.box 2⟩, ⟨blkCell h.box 3 _ rfl, blkFree h.box 3⟩, ⟨blkCell h.box 4 _ rfl, blkFree h.box 4⟩⟩
section
variable {w : World} {D : Nat} {n g : Int} {m lo hi : Nat} {W W' : World} (h : SwI w D n g m lo hi W)
include h
theorem SwI.far (k : Nat) (v : Value) : (W.setCell ⟨D, k, none⟩ v).heap[w.heap.size]? = W.heap[w.heap.size]? ∧ Below w.heap.size w (W.setCell ⟨D, k, none⟩ v) := by
  have := h.low
  exact ⟨Below.heap_setCell _ _ _ _ (by show w.heap.size ≠ D; omega), h.bel.setCell (p := ⟨D, k, none⟩) (by show w.heap.size ≤ D; omega) v⟩
theorem SwI.s0 (x : Int) : SwI w D x g m lo hi (W.setCell ⟨D, 0, none⟩ (.int .i64 x)) := let f := h.far 0 (.int .i64 x); ⟨h.low, w5_set0 h.box _, f.1.trans h.res, f.2⟩
theorem SwI.s1 (x : Int) : SwI w D n x m lo hi (W.setCell ⟨D, 1, none⟩ (.int .i64 x)) := let f := h.far 1 (.int .i64 x); ⟨h.low, w5_set1 h.box _, f.1.trans h.res, f.2⟩
theorem SwI.s2 (x : Nat) : SwI w D n g x lo hi (W.setCell ⟨D, 2, none⟩ (.float .f64 x)) := let f := h.far 2 (.float .f64 x); ⟨h.low, w5_set2 h.box _, f.1.trans h.res, f.2⟩
theorem SwI.s3 (x : Nat) : SwI w D n g m x hi (W.setCell ⟨D, 3, none⟩ (.float .f64 x)) := let f := h.far 3 (.float .f64 x); ⟨h.low, w5_set3 h.box _, f.1.trans h.res, f.2⟩
theorem SwI.s4 (x : Nat) : SwI w D n g m lo x (W.setCell ⟨D, 4, none⟩ (.float .f64 x)) := let f := h.far 4 (.float .f64 x); ⟨h.low, w5_set4 h.box _, f.1.trans h.res, f.2⟩
theorem SwI.later (hb : Below W.heap.size W W') : SwI w D n g m lo hi W' := ⟨h.low, (hb.block D (blkLt h.box)).trans h.box, (hb.block _ (blkLt h.res)).trans h.res, chain h.bel hb⟩
end
theorem specWatch_fault (a : Option Addr) (cap : Nat) (xs : List Nat) (hl : xs.length ≤ 100000000) (w : World) (hr : ReadsF w.heap.size w a xs) (h : trC xs ≠ 0) :
    Calls Try.prog 11 #[.slice a xs.length cap] w (AnsWt w ⟨0, 0, 0, 0, 0, trC xs⟩) := by
  have HT : Hid (∀ W, Below w.heap.size w W → Calls Try.prog 35 #[.slice a xs.length cap] W fun e w' => e = .returned (.bool (trB xs)) ∧ Below W.heap.size W w') := fun W hb => specTrace_any a cap xs hl W (hr.later hb)
  clear hr
  have HC : Hid (trC xs = if 4096 < xs.length then 2 else if trB xs = true then 0 else 1) := rfl
  unfold AnsWt
  generalize trC xs = c at *
  by_cases h1 : 4096 < xs.length
  · rw [if_pos h1] at HC
    obtain rfl : c = 2 := HC.out
    have h1' : (4096 : Int) < (xs.length : Int) := by omega
    go_enter Try.func11, Try.ntmps11
    go_wp2
    refine bodyPost_ret (v := .tuple #[.agg #[.int .i64 0, .int .i64 0, .float .f64 0, .float .f64 0, .float .f64 0], .int .i64 2]) (by simp [results, Try.results11, go_sem]) rfl ⟨rfl, ?_⟩
    first | exact below_alloc _ _ | exact (((((below_alloc w _).setCell (p := ⟨w.heap.size, 0, none⟩) (Nat.le_refl _) _).setCell (p := ⟨w.heap.size, 1, none⟩) (Nat.le_refl _) _).setCell (p := ⟨w.heap.size, 2, none⟩) (Nat.le_refl _) _).setCell (p := ⟨w.heap.size, 3, none⟩) (Nat.le_refl _) _).setCell (p := ⟨w.heap.size, 4, none⟩) (Nat.le_refl _) _
  have h1' : ¬ (4096 : Int) < (xs.length : Int) := by omega
  rw [if_neg h1] at HC
  generalize trB xs = b at *
  cases b
  · obtain rfl : c = 1 := HC.out
    go_enter Try.func11, Try.ntmps11
    go_wp2_with fail
    (first | go_at_call 35 | skip)
    refine (HT.out _ (below_alloc _ _)).mono ?_
    rintro e w1 ⟨rfl, hb1⟩
    have q := hb1.block w.heap.size (by simp)
    rw [heapNew] at q
    have HB : Hid (Below w.heap.size w w1) := chain (below_alloc _ _) hb1
    have q0 := blkCell q 0 _ rfl
    have q1 := blkCell q 1 _ rfl
    have q2 := blkCell q 2 _ rfl
    have q3 := blkCell q 3 _ rfl
    have q4 := blkCell q 4 _ rfl
    have f0 := blkFree q 0
    have f1 := blkFree q 1
    have f2 := blkFree q 2
    have f3 := blkFree q 3
    have f4 := blkFree q 4
    simp only [List.getElem_toArray, List.getElem_cons_zero, List.getElem_cons_succ] at q0 q1 q2 q3 q4
    clear q hb1
    go_wp2
    refine bodyPost_ret (v := .tuple #[.agg #[.int .i64 0, .int .i64 0, .float .f64 0, .float .f64 0, .float .f64 0], .int .i64 1]) (by simp [results, Try.results11, go_sem, q0, q1, q2, q3, q4]) rfl ⟨rfl, ?_⟩
    exact ((((HB.out.setCell (p := ⟨w.heap.size, 0, none⟩) (Nat.le_refl _) _).setCell (p := ⟨w.heap.size, 1, none⟩) (Nat.le_refl _) _).setCell (p := ⟨w.heap.size, 2, none⟩) (Nat.le_refl _) _).setCell (p := ⟨w.heap.size, 3, none⟩) (Nat.le_refl _) _).setCell (p := ⟨w.heap.size, 4, none⟩) (Nat.le_refl _) _
  · exact absurd HC.out h
/-- The state at place k: what is there of the first k numbers, told. -/
theorem wt_next {xs : List Nat} {k : Nat} (hk : k < xs.length) (hl : xs.length ≤ 200) (hok : oksF xs = true) (hm : msF (xs.getD k 0) = false) :
    (thT xs (k + 1)).length = (thT xs k).length + 1 ∧ wtS (thT xs (k + 1)) = wtN (wtS (thT xs k)) (xs.getD k 0) ∧ floatBits .add .f64 (wtS (thT xs k)).s (xs.getD k 0) = some (fadd (wtS (thT xs k)).s (xs.getD k 0)) := by
  have hD := oks_get hok hk
  unfold okF at hD
  rw [hm, Bool.false_or] at hD
  have hok1 : ThOK (k, xs.getD k 0) := ⟨by show k < 4096; omega, hD⟩
  have hn := thT_next hok1
  have hlen := thT_len xs k
  rw [hn]
  exact ⟨by rw [List.length_append]; rfl, wtS_snoc _ _, wtS_add _ ⟨(k, xs.getD k 0), hok1⟩ (by omega)⟩
set_option maxRecDepth 100000 in
set_option maxHeartbeats 16000000 in
theorem specWatch_right (a : Option Addr) (cap : Nat) (xs : List Nat) (h : trC xs = 0) (w : World) (hr : ReadsF w.heap.size w a xs) :
    Calls Try.prog 11 #[.slice a xs.length cap] w (AnsWt w (wtA xs)) := by
  obtain ⟨hlen, hok⟩ := trC_right h
  have htr : trB xs = true := by unfold trB; rw [decide_eq_true hlen, hok]; rfl
  have HT : Hid (∀ W, Below w.heap.size w W → Calls Try.prog 35 #[.slice a xs.length cap] W fun e w' => e = .returned (.bool true) ∧ Below W.heap.size W w') := fun W hb => by rw [← htr]; exact specTrace_any a cap xs (by omega) W (hr.later hb)
  have HA0 : Hid ((thT xs xs.length).length = 0 → wtA xs = ⟨0, 0, 0, 0, 0, 8⟩) := fun h2 => by unfold wtA; rw [if_pos h, if_pos h2]
  have HA1 : Hid ((thT xs xs.length).length ≠ 0 → wtA xs = ⟨(thT xs xs.length).length, (xs.length : Int) - (thT xs xs.length).length, fdiv (wtS (thT xs xs.length)).s (floatOfInt .f64 ((thT xs xs.length).length : Int)), (wtS (thT xs xs.length)).lo, (wtS (thT xs xs.length)).hi, 0⟩) := fun h2 => by unfold wtA; rw [if_pos h, if_neg h2]
  generalize wtA xs = ans at *
  have HR : Hid (ReadsF w.heap.size w a xs) := hr
  have h1' : ¬ (4096 : Int) < (xs.length : Int) := by omega
  clear hr h htr
  go_enter Try.func11, Try.ntmps11
  go_wp2_with fail
  (first | go_at_call 35 | skip)
  refine (HT.out _ (below_alloc _ _)).mono ?_
  rintro e w1 ⟨rfl, hb1⟩
  have q := hb1.block w.heap.size (by simp)
  rw [heapNew] at q
  have HQ : Hid (w1.heap[w.heap.size]? = some (.cells #[.int .i64 0, .int .i64 0, .float .f64 0, .float .f64 0, .float .f64 0] 28 (0, 0))) := q
  have HB1 : Hid (Below w.heap.size w w1) := chain (below_alloc _ _) hb1
  have hlow : w.heap.size < w1.heap.size := blkLt q
  clear q hb1 HT
  go_wp2
  go_loopw [5, 6, 7] (fun s i _ wr => ∃ k : Nat, k ≤ xs.length ∧ i = .int .i64 (k : Int) ∧ s = .float .f64 (wtS (thT xs k)).s ∧ SwI w w1.heap.size ((thT xs k).length : Int) ((k : Int) - ((thT xs k).length : Int)) 0 (wtS (thT xs k)).lo (wtS (thT xs k)).hi wr) (fun _ i _ _ => xs.length - (intOf i).toNat)
  case atStart => exact ⟨0, Nat.zero_le _, rfl, rfl, ⟨hlow, heapNew _ _, (Below.heap_alloc _ _ _ hlow).trans HQ.out, chain HB1.out (below_alloc _ _)⟩⟩
  case round =>
    obtain ⟨k, hk, rfl, rfl, hI⟩ := hrel
    have HI : Hid (SwI w w1.heap.size ((thT xs k).length : Int) ((k : Int) - ((thT xs k).length : Int)) 0 (wtS (thT xs k)).lo (wtS (thT xs k)).hi wr) := hI
    clear hI HQ HB1
    generalize w1.heap.size = D at *
    by_cases hlt : k < xs.length
    · have hlt' : (k : Int) < (xs.length : Int) := by omega
      rcases HR.out with h | ⟨b0, o0, ha, hB0, ia⟩
      · rw [h] at hlt; simp at hlt
      have c0 := (ia.below HI.out.bel hB0) k hlt
      have HT : Hid (∀ W, Calls Try.prog 36 #[.float .f64 (xs.getD k 0)] W fun e' w' => e' = .returned (.bool (!msF (xs.getD k 0))) ∧ Below W.heap.size W w') := fun W => there_any _ W
      have hkl := thT_len xs k
      rw [ha]
      clear ia
      cases hms : msF (xs.getD k 0) with
      | true =>
        have HF : Hid (∀ W', SwI w D ((thT xs k).length : Int) ((k : Int) - ((thT xs k).length : Int) + 1) 0 (wtS (thT xs k)).lo (wtS (thT xs k)).hi W' → ∃ k' : Nat, k' ≤ xs.length ∧ Value.int .i64 ((k : Int) + 1) = .int .i64 (k' : Int) ∧ Value.float .f64 (wtS (thT xs k)).s = .float .f64 (wtS (thT xs k')).s ∧ SwI w D ((thT xs k').length : Int) ((k' : Int) - ((thT xs k').length : Int)) 0 (wtS (thT xs k')).lo (wtS (thT xs k')).hi W') := fun W' h => by
          have e := thT_skip hms
          refine ⟨k + 1, by omega, by go_num, by rw [e], ?_⟩
          rw [e, show ((k + 1 : Nat) : Int) - ((thT xs k).length : Int) = (k : Int) - ((thT xs k).length : Int) + 1 by omega]
          exact h
        have hw1 : IntKind.i64.wrap ((k : Int) - ((thT xs k).length : Int) + 1) = (k : Int) - ((thT xs k).length : Int) + 1 := wrap_id _ (by omega) (by omega)
        rw [hms] at HT
        generalize (k : Int) - ((thT xs k).length : Int) = g at *
        generalize ((thT xs k).length : Int) = n at *
        generalize (wtS (thT xs k)).s = s at *
        generalize (wtS (thT xs k)).lo = lo at *
        generalize (wtS (thT xs k)).hi = hi at *
        clear hms
        generalize xs.getD k 0 = xv at *
        go_wp2_with fail
        (first | go_at_call 36 | skip)
        refine (HT.out _).mono ?_
        rintro e w2 ⟨rfl, hb2⟩
        have hI2 := HI.out.later hb2
        obtain ⟨_, ⟨a1, a1f⟩, _, _, _⟩ := hI2.cells
        clear hb2 c0
        go_wp2
        go_roundw
        case rel => exact HF.out _ (hI2.s1 (g + 1))
        case measure => simp [intOf]; omega
      | false =>
        obtain ⟨e1, e2, hadd⟩ := wt_next hlt hlen hok hms
        have HF0 : Hid (∀ W', SwI w D (((thT xs k).length : Int) + 1) ((k : Int) - ((thT xs k).length : Int)) 0 (if (decide ((thT xs k).length = 0) || ltF (xs.getD k 0) (wtS (thT xs k)).lo) = true then xs.getD k 0 else (wtS (thT xs k)).lo) (if (decide ((thT xs k).length = 0) || ltF (wtS (thT xs k)).hi (xs.getD k 0)) = true then xs.getD k 0 else (wtS (thT xs k)).hi) W' → ∃ k' : Nat, k' ≤ xs.length ∧ Value.int .i64 ((k : Int) + 1) = .int .i64 (k' : Int) ∧ Value.float .f64 (fadd (wtS (thT xs k)).s (xs.getD k 0)) = .float .f64 (wtS (thT xs k')).s ∧ SwI w D ((thT xs k').length : Int) ((k' : Int) - ((thT xs k').length : Int)) 0 (wtS (thT xs k')).lo (wtS (thT xs k')).hi W') := fun W' h => by
          refine ⟨k + 1, by omega, by go_num, by rw [e2]; rfl, ?_⟩
          have e := wtS_n (thT xs k)
          rw [e1, e2, show ((k + 1 : Nat) : Int) - (((thT xs k).length + 1 : Nat) : Int) = (k : Int) - ((thT xs k).length : Int) by omega]
          unfold wtN
          rw [e]
          exact h
        have hL := o_lt (xs.getD k 0) (wtS (thT xs k)).lo
        have hG := o_gt (xs.getD k 0) (wtS (thT xs k)).hi
        have hrun := fun t W => run_float_arith (P := Try.prog) W .add t .f64 _ _ _ hadd
        have hw1 : IntKind.i64.wrap (((thT xs k).length : Int) + 1) = ((thT xs k).length : Int) + 1 := wrap_id _ (by omega) (by omega)
        rw [hms] at HT
        clear hadd e1 e2 hms
        generalize ltF (xs.getD k 0) (wtS (thT xs k)).lo = b1 at *
        generalize ltF (wtS (thT xs k)).hi (xs.getD k 0) = b2 at *
        generalize fadd (wtS (thT xs k)).s (xs.getD k 0) = r at *
        generalize (k : Int) - ((thT xs k).length : Int) = g at *
        generalize (thT xs k).length = n at *
        generalize (wtS (thT xs k)).s = s at *
        generalize (wtS (thT xs k)).lo = lo at *
        generalize (wtS (thT xs k)).hi = hi at *
        generalize xs.getD k 0 = xv at *
        go_wp2_with fail
        (first | go_at_call 36 | skip)
        refine (HT.out _).mono ?_
        rintro e w2 ⟨rfl, hb2⟩
        have hI2 := HI.out.later hb2
        clear hb2 c0
        by_cases h0 : n = 0
        · have hn : ((n : Int) == 0) = true := by rw [h0]; rfl
          rw [decide_eq_true h0] at HF0
          have HF := HF0
          clear HF0 h0
          generalize (n : Int) = n at *
          obtain ⟨⟨a0, a0f⟩, _, _, ⟨a3, a3f⟩, ⟨a4, a4f⟩⟩ := hI2.cells
          obtain ⟨⟨b0, b0f⟩, _, _, ⟨b3, b3f⟩, ⟨b4, b4f⟩⟩ := (hI2.s3 xv).cells
          obtain ⟨⟨c0, c0f⟩, _, _, ⟨c3, c3f⟩, ⟨c4, c4f⟩⟩ := ((hI2.s3 xv).s4 xv).cells
          go_wp2
          go_roundw
          case rel => exact HF.out _ (((hI2.s3 xv).s4 xv).s0 (n + 1))
          case measure => simp [intOf]; omega
        · have hn : ((n : Int) == 0) = false := beq_eq_false_iff_ne.2 (by omega)
          rw [decide_eq_false h0] at HF0
          have HF := HF0
          clear HF0 h0
          generalize (n : Int) = n at *
          cases b1
          · cases b2
            · obtain ⟨⟨a0, a0f⟩, _, _, ⟨a3, a3f⟩, ⟨a4, a4f⟩⟩ := hI2.cells
              go_wp2
              go_roundw
              case rel => exact HF.out _ (hI2.s0 (n + 1))
              case measure => simp [intOf]; omega
            · obtain ⟨⟨a0, a0f⟩, _, _, ⟨a3, a3f⟩, ⟨a4, a4f⟩⟩ := hI2.cells
              obtain ⟨⟨c0, c0f⟩, _, _, ⟨c3, c3f⟩, ⟨c4, c4f⟩⟩ := (hI2.s4 xv).cells
              go_wp2
              go_roundw
              case rel => exact HF.out _ ((hI2.s4 xv).s0 (n + 1))
              case measure => simp [intOf]; omega
          · cases b2
            · obtain ⟨⟨a0, a0f⟩, _, _, ⟨a3, a3f⟩, ⟨a4, a4f⟩⟩ := hI2.cells
              obtain ⟨⟨b0, b0f⟩, _, _, ⟨b3, b3f⟩, ⟨b4, b4f⟩⟩ := (hI2.s3 xv).cells
              go_wp2
              go_roundw
              case rel => exact HF.out _ ((hI2.s3 xv).s0 (n + 1))
              case measure => simp [intOf]; omega
            · obtain ⟨⟨a0, a0f⟩, _, _, ⟨a3, a3f⟩, ⟨a4, a4f⟩⟩ := hI2.cells
              obtain ⟨⟨b0, b0f⟩, _, _, ⟨b3, b3f⟩, ⟨b4, b4f⟩⟩ := (hI2.s3 xv).cells
              obtain ⟨⟨c0, c0f⟩, _, _, ⟨c3, c3f⟩, ⟨c4, c4f⟩⟩ := ((hI2.s3 xv).s4 xv).cells
              go_wp2
              go_roundw
              case rel => exact HF.out _ (((hI2.s3 xv).s4 xv).s0 (n + 1))
              case measure => simp [intOf]; omega
    · have hlt' : ¬ (k : Int) < (xs.length : Int) := by omega
      obtain rfl : k = xs.length := by omega
      have hnl : (thT xs xs.length).length ≤ xs.length := thT_len xs _
      by_cases h0 : (thT xs xs.length).length = 0
      · have HA := HA0.out h0
        have hn : (((thT xs xs.length).length : Int) == 0) = true := by rw [h0]; rfl
        subst HA
        have hI := HI.out
        generalize ((thT xs xs.length).length : Int) = n at *
        obtain ⟨⟨a0, a0f⟩, _, _, _, _⟩ := hI.cells
        have q0 := blkCell hI.res 0 _ rfl
        have q1 := blkCell hI.res 1 _ rfl
        have q2 := blkCell hI.res 2 _ rfl
        have q3 := blkCell hI.res 3 _ rfl
        have q4 := blkCell hI.res 4 _ rfl
        have f0 := blkFree hI.res 0
        have f1 := blkFree hI.res 1
        have f2 := blkFree hI.res 2
        have f3 := blkFree hI.res 3
        have f4 := blkFree hI.res 4
        simp only [List.getElem_toArray, List.getElem_cons_zero, List.getElem_cons_succ] at q0 q1 q2 q3 q4
        have HB : Hid (Below w.heap.size w wr) := hI.bel
        clear hI
        go_wp2
        refine bodyPost_ret (v := .tuple #[.agg #[.int .i64 0, .int .i64 0, .float .f64 0, .float .f64 0, .float .f64 0], .int .i64 8]) (by simp [results, Try.results11, go_sem, q0, q1, q2, q3, q4]) rfl ⟨rfl, ?_⟩
        exact ((((HB.out.setCell (p := ⟨w.heap.size, 0, none⟩) (Nat.le_refl _) _).setCell (p := ⟨w.heap.size, 1, none⟩) (Nat.le_refl _) _).setCell (p := ⟨w.heap.size, 2, none⟩) (Nat.le_refl _) _).setCell (p := ⟨w.heap.size, 3, none⟩) (Nat.le_refl _) _).setCell (p := ⟨w.heap.size, 4, none⟩) (Nat.le_refl _) _
      · have HA := HA1.out h0
        have hn : (((thT xs xs.length).length : Int) == 0) = false := beq_eq_false_iff_ne.2 (by omega)
        subst HA
        have hc := fun W => run_convert_int_float (P := Try.prog) W 3 24 .i64 .f64 ((thT xs xs.length).length : Int) (by rw [Try.underlying3]; rfl) Try.underlying24
        have hdv := fdiv_some (wtS_fin (thT xs xs.length) (by omega)) (int_float (n := (thT xs xs.length).length) (by omega) (by omega))
        have hrun := fun t W => run_float_arith (P := Try.prog) W .quo t .f64 _ _ _ hdv
        have hI := HI.out
        clear hdv HA0 HA1 HI
        generalize fdiv (wtS (thT xs xs.length)).s (floatOfInt .f64 ((thT xs xs.length).length : Int)) = mean at *
        generalize floatOfInt .f64 ((thT xs xs.length).length : Int) = fc at *
        generalize (xs.length : Int) - ((thT xs xs.length).length : Int) = g at *
        generalize ((thT xs xs.length).length : Int) = n at *
        generalize (wtS (thT xs xs.length)).s = s at *
        generalize (wtS (thT xs xs.length)).lo = lo at *
        generalize (wtS (thT xs xs.length)).hi = hi at *
        obtain ⟨⟨a0, a0f⟩, _, ⟨a2, a2f⟩, _, _⟩ := hI.cells
        have I2 := hI.s2 mean
        obtain ⟨⟨c0, c0f⟩, ⟨c1, c1f⟩, ⟨c2, c2f⟩, ⟨c3, c3f⟩, ⟨c4, c4f⟩⟩ := I2.cells
        have q0 := blkCell I2.res 0 _ rfl
        have q1 := blkCell I2.res 1 _ rfl
        have q2 := blkCell I2.res 2 _ rfl
        have q3 := blkCell I2.res 3 _ rfl
        have q4 := blkCell I2.res 4 _ rfl
        have f0 := blkFree I2.res 0
        have f1 := blkFree I2.res 1
        have f2 := blkFree I2.res 2
        have f3 := blkFree I2.res 3
        have f4 := blkFree I2.res 4
        simp only [List.getElem_toArray, List.getElem_cons_zero, List.getElem_cons_succ] at q0 q1 q2 q3 q4
        have HB : Hid (Below w.heap.size w (wr.setCell ⟨D, 2, none⟩ (.float .f64 mean))) := I2.bel
        clear hI I2
        go_wp2
        refine bodyPost_ret (v := .tuple #[.agg #[.int .i64 n, .int .i64 g, .float .f64 mean, .float .f64 lo, .float .f64 hi], .int .i64 0]) (by simp [results, Try.results11, go_sem, q0, q1, q2, q3, q4]) rfl ⟨rfl, ?_⟩
        exact ((((HB.out.setCell (p := ⟨w.heap.size, 0, none⟩) (Nat.le_refl _) _).setCell (p := ⟨w.heap.size, 1, none⟩) (Nat.le_refl _) _).setCell (p := ⟨w.heap.size, 2, none⟩) (Nat.le_refl _) _).setCell (p := ⟨w.heap.size, 3, none⟩) (Nat.le_refl _) _).setCell (p := ⟨w.heap.size, 4, none⟩) (Nat.le_refl _) _
theorem implWatch_any (a : Option Addr) (cap : Nat) (xs : List Nat) (hl : xs.length ≤ 100000000) (w : World) (hr : ReadsF w.heap.size w a xs) :
    Calls Try.prog 10 #[.slice a xs.length cap] w (AnsWt w (wtA xs)) := by
  by_cases h : trC xs = 0
  · exact implWatch_right a cap xs h w hr
  · unfold wtA
    rw [if_neg h]
    exact implWatch_fault a cap xs hl w hr h
theorem specWatch_any (a : Option Addr) (cap : Nat) (xs : List Nat) (hl : xs.length ≤ 100000000) (w : World) (hr : ReadsF w.heap.size w a xs) :
    Calls Try.prog 11 #[.slice a xs.length cap] w (AnsWt w (wtA xs)) := by
  by_cases h : trC xs = 0
  · exact specWatch_right a cap xs h w hr
  · unfold wtA
    rw [if_neg h]
    exact specWatch_fault a cap xs hl w hr h
end Go.Proofs.Ytillkllkekhmfaa
