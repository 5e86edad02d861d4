/-
  Contract of the specification's Bridge, for all arguments.
-/
import Derived.Test.YtillkllkekhmfaaPwX
namespace Go.Proofs.Ytillkllkekhmfaa
open Go.ChangeShapes Go.WideShapes Go.ChangeAt Go.RowKit Go.Joins Go.Deep
set_option linter.unusedVariables false
attribute [local go_sem] run_store_float

theorem specBridge_long (a : Option Addr) (cap : Nat) (rs : List RPw) (h : 4096 < rs.length) (w : World) :
    Calls Try.prog 19 #[.slice a rs.length cap] w (AnsPw w (0, 0) 2) := by
  have h' : (4096 : Int) < (rs.length : Int) := by omega
  unfold AnsPw
  go_enter Try.func19, Try.ntmps19
  go_wp2
  refine bodyPost_ret (v := .tuple #[.agg #[.float .f64 0, .float .f64 0], .int .i64 2]) (by simp [results, Try.results19, go_sem]) rfl ⟨rfl, ?_⟩
  repeat (first | exact Below.refl _ _ | exact below_alloc _ _ | refine chain ?_ (below_alloc _ _) | refine Below.setCell ?_ (by dsimp only; omega) _)
theorem specBridge_bad (a : Option Addr) (cap : Nat) (rs : List RPw) (hl : rs.length ≤ 4096) (h : pwR rs = false) (w : World) (hr : ReadsPw w.heap.size w a rs) :
    Calls Try.prog 19 #[.slice a rs.length cap] w (AnsPw w (0, 0) 1) := by
  have HP : Hid (∀ W, Below w.heap.size w W → Calls Try.prog 48 #[.slice a rs.length cap] W fun e w' => e = .returned (.bool false) ∧ Below W.heap.size W w') := fun W hb => by rw [← h]; exact specPower_any a cap rs (by omega) W ((hr.below hb).mono hb.size)
  have h' : ¬ (4096 : Int) < (rs.length : Int) := by omega
  clear hr h
  unfold AnsPw
  go_enter Try.func19, Try.ntmps19
  go_wp2_with fail
  (first | go_at_call 48 | skip)
  refine (HP.out _ (below_alloc _ _)).mono ?_
  rintro e w1 ⟨rfl, hb1⟩
  have q := hb1.block w.heap.size (by simp)
  rw [heapNew] at q
  have HB : Hid (Below w.heap.size w w1) := chain (below_alloc _ _) hb1
  obtain ⟨⟨q0, f0⟩, q1, f1⟩ := two_cells q
  clear q hb1
  go_wp2
  refine bodyPost_ret (v := .tuple #[.agg #[.float .f64 0, .float .f64 0], .int .i64 1]) (by simp [results, Try.results19, go_sem, q0, q1]) rfl ⟨rfl, ?_⟩
  exact (HB.out.setCell (p := ⟨w.heap.size, 0, none⟩) (Nat.le_refl _) _).setCell (p := ⟨w.heap.size, 1, none⟩) (Nat.le_refl _) _
structure BsI (w : World) (D : Nat) (x y : Nat) (W : World) : Prop where
  low : w.heap.size < D
  box : W.heap[D]? = some (.cells #[.float .f64 x, .float .f64 y] 43 (0, 0))
  res : W.heap[w.heap.size]? = some (.cells #[.float .f64 0, .float .f64 0] 43 (0, 0))
  bel : Below w.heap.size w W
theorem p2_set0 {W : World} {b : Nat} {v0 v1 : Value} {t : TypeId} (h : W.heap[b]? = some (.cells #[v0, v1] t (0, 0))) (v : Value) : (W.setCell ⟨b, 0, none⟩ v).heap[b]? = some (.cells #[v, v1] t (0, 0)) := by
  have e := heap_setCell_same _ _ 0 _ _ v h
  simp only [List.setIfInBounds_toArray, List.set_cons_zero] at e
  exact e
theorem p2_set1 {W : World} {b : Nat} {v0 v1 : Value} {t : TypeId} (h : W.heap[b]? = some (.cells #[v0, v1] t (0, 0))) (v : Value) : (W.setCell ⟨b, 1, none⟩ v).heap[b]? = some (.cells #[v0, v] t (0, 0)) := by
  have e := heap_setCell_same _ _ 1 _ _ v h
  simp only [List.setIfInBounds_toArray, List.set_cons_zero, List.set_cons_succ] at e
  exact e
section
variable {w : World} {D : Nat} {x y : Nat} {W W' : World} (h : BsI w D x y W)
include h
theorem BsI.far (k : Nat) (v : Value) : (W.setCell ⟨D, k, none⟩ v).heap[w.heap.size]? = W.heap[w.heap.size]? ∧ Below w.heap.size w (W.setCell ⟨D, k, none⟩ v) := by
  have := h.low
  exact ⟨Below.heap_setCell _ _ _ _ (by show w.heap.size ≠ D; omega), h.bel.setCell (p := ⟨D, k, none⟩) (by show w.heap.size ≤ D; omega) v⟩
theorem BsI.s0 (v : Nat) : BsI w D v y (W.setCell ⟨D, 0, none⟩ (.float .f64 v)) := let f := h.far 0 (.float .f64 v); ⟨h.low, p2_set0 h.box _, f.1.trans h.res, f.2⟩
theorem BsI.s1 (v : Nat) : BsI w D x v (W.setCell ⟨D, 1, none⟩ (.float .f64 v)) := let f := h.far 1 (.float .f64 v); ⟨h.low, p2_set1 h.box _, f.1.trans h.res, f.2⟩
theorem BsI.later (hb : Below W.heap.size W W') : BsI w D x y W' := ⟨h.low, (hb.block D (blkLt h.box)).trans h.box, (hb.block _ (blkLt h.res)).trans h.res, chain h.bel hb⟩
end
set_option maxHeartbeats 16000000 in
theorem specBridge_right (a : Option Addr) (cap : Nat) (rs : List RPw) (hlen : rs.length ≤ 12) (h : pwR rs = true) (w : World) (hr : ReadsPw w.heap.size w a rs) :
    Calls Try.prog 19 #[.slice a rs.length cap] w (AnsPw w (if nzB rs = true then brT rs rs.length else (0, 0)) (if nzB rs = true then 0 else 10)) := by
  have HP : Hid (∀ W, Below w.heap.size w W → Calls Try.prog 48 #[.slice a rs.length cap] W fun e w' => e = .returned (.bool true) ∧ Below W.heap.size W w') := fun W hb => by rw [← h]; exact specPower_any a cap rs (by omega) W ((hr.below hb).mono hb.size)
  have h' : ¬ (4096 : Int) < (rs.length : Int) := by omega
  have hp := (pwR_right h).2
  have HR : Hid (ReadsPw w.heap.size w a rs) := hr
  have HNo : Hid (nzB rs = false → ∀ w', Below w.heap.size w w' → AnsPw w (if nzB rs = true then brT rs rs.length else (0, 0)) (if nzB rs = true then 0 else 10) (.returned (.tuple #[.agg #[.float .f64 0, .float .f64 0], .int .i64 10])) w') := fun h2 w' hb => by rw [h2]; exact ⟨rfl, hb⟩
  have HYe : Hid (nzB rs = true → ∀ w', Below w.heap.size w w' → AnsPw w (if nzB rs = true then brT rs rs.length else (0, 0)) (if nzB rs = true then 0 else 10) (.returned (.tuple #[.agg #[.float .f64 (brT rs rs.length).1, .float .f64 (brT rs rs.length).2], .int .i64 0])) w') := fun h2 w' hb => by rw [h2]; exact ⟨rfl, hb⟩
  clear hr h
  generalize AnsPw w (if nzB rs = true then brT rs rs.length else (0, 0)) (if nzB rs = true then 0 else 10) = ANS at *
  go_enter Try.func19, Try.ntmps19
  go_wp2_with fail
  (first | go_at_call 48 | skip)
  refine (HP.out _ (below_alloc _ _)).mono ?_
  rintro e w1 ⟨rfl, hb1⟩
  have q := hb1.block w.heap.size (by simp)
  rw [heapNew] at q
  have HQ : Hid (w1.heap[w.heap.size]? = some (.cells #[.float .f64 0, .float .f64 0] 43 (0, 0))) := q
  have HB1 : Hid (Below w.heap.size w w1) := chain (below_alloc _ _) hb1
  have hlow : w.heap.size < w1.heap.size := blkLt q
  clear q hb1 HP
  go_wp2
  go_loopw [5] (fun i wr => ∃ k : Nat, k ≤ rs.length ∧ i = .int .i64 (k : Int) ∧ nzB (rs.take k) = true ∧ BsI w w1.heap.size (brT rs k).1 (brT rs k).2 wr) (fun i _ => rs.length - (intOf i).toNat)
  case atStart => exact ⟨0, Nat.zero_le _, rfl, rfl, ⟨hlow, heapNew _ _, (Below.heap_alloc _ _ _ hlow).trans HQ.out, chain HB1.out (below_alloc _ _)⟩⟩
  case round =>
    obtain ⟨k, hk, rfl, hnz, hb⟩ := hrel
    have HI : Hid (BsI w w1.heap.size (brT rs k).1 (brT rs k).2 wr) := hb
    have HNZ : Hid (nzB (rs.take k) = true) := hnz
    clear hb hnz HQ HB1
    generalize w1.heap.size = D at *
    have HBw : Hid (Below w.heap.size w wr) := HI.out.bel
    by_cases hlt : k < rs.length
    · have hlt' : (k : Int) < (rs.length : Int) := by omega
      rcases HR.out with h | ⟨b0, o0, ha, hB0, ia⟩
      · rw [h] at hlt; simp at hlt
      obtain ⟨c0, c1⟩ := (ia.below HBw.out hB0) k hlt
      have lt0 : b0 < wr.heap.size := Nat.lt_of_lt_of_le hB0 HBw.out.size
      obtain ⟨e1, e2, e3, e4⟩ := br_some (pws_get hp hlt)
      have r1 := fun t W => run_float_arith (P := Try.prog) W .mul t .f64 _ _ _ e1
      have r2 := fun t W => run_float_arith (P := Try.prog) W .mul t .f64 _ _ _ e2
      have r3 := fun t W => run_float_arith (P := Try.prog) W .add t .f64 _ _ _ e3
      have hz := o_eq (brN (rs.getD k zPw)) 0
      have HNx : Hid (nzB (rs.take (k + 1)) = (nzB (rs.take k) && !eqF (brN (rs.getD k zPw)) 0)) := nz_take rs k hlt
      cases hez : eqF (brN (rs.getD k zPw)) 0 with
      | true =>
        have HF : Hid (nzB rs = false) := nz_fail hlt hez
        rw [hez] at hz
        rw [ha]
        clear ia e1 e2 e3 e4 hez HNx
        generalize brN (rs.getD k zPw) = n at *
        generalize fmul (rs.getD k zPw).re (rs.getD k zPw).re = m1 at *
        generalize fmul (rs.getD k zPw).im (rs.getD k zPw).im = m2 at *
        generalize (rs.getD k zPw).re = x at *
        generalize (rs.getD k zPw).im = y at *
        have hlw : w.heap.size < wr.heap.size := blkLt HI.out.res
        obtain ⟨⟨q0, f0⟩, q1, f1⟩ := two_cells HI.out.res
        go_wp2
        refine bodyPost_ret (v := .tuple #[.agg #[.float .f64 0, .float .f64 0], .int .i64 10]) (by simp [results, Try.results19, go_sem, q0, q1, hlw]) rfl (HNo.out HF.out _ ?_)
        exact chain ((HBw.out.setCell (p := ⟨w.heap.size, 0, none⟩) (Nat.le_refl _) _).setCell (p := ⟨w.heap.size, 1, none⟩) (Nat.le_refl _) _) (below_alloc _ _)
      | false =>
        obtain ⟨⟨e5, _⟩, e6, _⟩ := e4 hez
        obtain ⟨_, e7, e8⟩ := brT_add hp hlt (by omega) HNZ.out hez
        have r5 := fun t W => run_float_arith (P := Try.prog) W .quo t .f64 _ _ _ e5
        have r6 := fun t W => run_float_arith (P := Try.prog) W .quo t .f64 _ _ _ e6
        have r7 := fun t W => run_float_arith (P := Try.prog) W .add t .f64 _ _ _ e7
        have r9 := fun t W => run_float_arith (P := Try.prog) W .add t .f64 _ _ _ e8
        have r8 := fun W => neg_run (P := Try.prog) (rs.getD k zPw).im W
        have HN2 : Hid (nzB (rs.take (k + 1)) = true) := by show _ = _; rw [HNx.out, hez, HNZ.out]; rfl
        rw [hez] at hz
        rw [ha]
        clear ia e1 e2 e3 e4 e5 e6 e7 e8 hez HNx
        generalize fdiv (rs.getD k zPw).re (brN (rs.getD k zPw)) = d1 at *
        generalize fdiv (negF (rs.getD k zPw).im) (brN (rs.getD k zPw)) = d2 at *
        generalize negF (rs.getD k zPw).im = ny at *
        generalize brN (rs.getD k zPw) = n at *
        generalize fmul (rs.getD k zPw).re (rs.getD k zPw).re = m1 at *
        generalize fmul (rs.getD k zPw).im (rs.getD k zPw).im = m2 at *
        generalize (rs.getD k zPw).re = x at *
        generalize (rs.getD k zPw).im = y at *
        generalize hs1 : (brT rs (k + 1)).1 = s1 at *
        generalize hs2 : (brT rs (k + 1)).2 = s2 at *
        have HS : Hid ((brT rs (k + 1)).1 = s1 ∧ (brT rs (k + 1)).2 = s2) := ⟨hs1, hs2⟩
        clear hs1 hs2
        generalize (brT rs k).1 = t1 at *
        generalize (brT rs k).2 = t2 at *
        have I1 := HI.out
        have hD := blkLt I1.box
        obtain ⟨⟨q0, f0⟩, q1, f1⟩ := two_cells I1.box
        obtain ⟨⟨q0', f0'⟩, q1', f1'⟩ := two_cells (I1.s0 s1).box
        clear I1
        go_wp2
        go_roundw
        case rel => exact ⟨k + 1, by omega, by go_num, HN2.out, by rw [HS.out.1, HS.out.2]; exact ((HI.out.s0 s1).s1 s2).later (below_alloc _ _)⟩
        case measure => simp [intOf]; omega
    · have hle : (rs.length : Int) ≤ (k : Int) := by omega
      obtain rfl : k = rs.length := by omega
      have HF : Hid (nzB rs = true) := by have := HNZ.out; rwa [List.take_of_length_le (Nat.le_refl _)] at this
      have HYY : Hid (∀ (w' : World), Below w.heap.size w w' → ANS (.returned (.tuple #[.agg #[.float .f64 (brT rs rs.length).1, .float .f64 (brT rs rs.length).2], .int .i64 0])) w') := HYe.out HF.out
      clear HYe HNo
      generalize (brT rs rs.length).1 = t1 at *
      generalize (brT rs rs.length).2 = t2 at *
      obtain ⟨⟨q0, f0⟩, q1, f1⟩ := two_cells HI.out.res
      obtain ⟨⟨p0, g0⟩, p1, g1⟩ := two_cells HI.out.box
      go_wp2
      refine bodyPost_ret (v := .tuple #[.agg #[.float .f64 t1, .float .f64 t2], .int .i64 0]) (by simp [results, Try.results19, go_sem, q0, q1]) rfl (HYY.out _ ?_)
      exact ((HBw.out.setCell (p := ⟨w.heap.size, 0, none⟩) (Nat.le_refl _) _).setCell (p := ⟨w.heap.size, 1, none⟩) (Nat.le_refl _) _)
theorem specBridge_any (a : Option Addr) (cap : Nat) (rs : List RPw) (w : World) (hr : ReadsPw w.heap.size w a rs) :
    Calls Try.prog 19 #[.slice a rs.length cap] w (AnsPw w (brA rs) (brC rs)) := by
  rcases br_ways rs with ⟨h1, h2, h3⟩ | ⟨h0, h1, h2, h3⟩ | ⟨h0, h1, h4, h2, h3⟩ | ⟨h0, h1, h4, h2, h3⟩
  · rw [h2, h3]; exact specBridge_long a cap rs h1 w
  · rw [h2, h3]; exact specBridge_bad a cap rs h0 h1 w hr
  · have := specBridge_right a cap rs h0 h1 w hr
    rw [h4] at this
    rw [h2, h3]; exact this
  · have := specBridge_right a cap rs h0 h1 w hr
    rw [h4] at this
    rw [h2, h3]; exact this
end Go.Proofs.Ytillkllkekhmfaa
