/-
  Contract of the program's PowerOf, for all arguments.
-/
import Derived.Test.YtillkllkekhmfaaPwN
import Derived.Deep.RegionHeld3
namespace Go.Proofs.Ytillkllkekhmfaa
open Go.ChangeShapes Go.WideShapes Go.ChangeAt Go.RowKit Go.Joins Go.Deep
set_option linter.unusedVariables false
attribute [local go_sem] run_store_float

theorem number_any (x y : Nat) (w : World) : Calls Try.prog 45 #[.agg #[.float .f64 x, .float .f64 y]] w fun e' w' => e' = .returned (.complex .f64 x y) ∧ Below w.heap.size w w' := by
  go_enter Try.func45, Try.ntmps45
  go_wp2
  go_ret
  exact ⟨rfl, below_alloc _ _⟩
theorem turned_any (x y : Nat) (w : World) : Calls Try.prog 46 #[.agg #[.float .f64 x, .float .f64 y]] w fun e' w' => e' = .returned (.complex .f64 x (negF y)) ∧ Below w.heap.size w w' := by
  have r8 := fun W => neg_run (P := Try.prog) y W
  generalize negF y = z at *
  go_enter Try.func46, Try.ntmps46
  go_wp2
  go_ret
  exact ⟨rfl, below_alloc _ _⟩
theorem product_any {x y u v : Nat} (hx : FinW (FloatKind.format .f64) 1094 x) (hy : FinW (FloatKind.format .f64) 1094 y) (hu : FinW (FloatKind.format .f64) 1094 u) (hv : FinW (FloatKind.format .f64) 1094 v) (w : World) :
    Calls Try.prog 44 #[.complex .f64 x y, .complex .f64 u v] w fun e' w' => e' = .returned (.complex .f64 (prR x y u v) (prI x y u v)) ∧ Below w.heap.size w w' := by
  obtain ⟨e1, e2, e3, e4, ⟨e5, _⟩, e6, _⟩ := pr_some hx hy hu hv
  have r1 := fun t W => run_float_arith (P := Try.prog) W .mul t .f64 _ _ _ e1
  have r2 := fun t W => run_float_arith (P := Try.prog) W .mul t .f64 _ _ _ e2
  have r3 := fun t W => run_float_arith (P := Try.prog) W .mul t .f64 _ _ _ e3
  have r4 := fun t W => run_float_arith (P := Try.prog) W .mul t .f64 _ _ _ e4
  have r5 := fun t W => run_float_arith (P := Try.prog) W .sub t .f64 _ _ _ e5
  have r6 := fun t W => run_float_arith (P := Try.prog) W .add t .f64 _ _ _ e6
  clear e1 e2 e3 e4 e5 e6 hx hy hu hv
  generalize prR x y u v = p at *
  generalize prI x y u v = q at *
  generalize fmul x u = m1 at *
  generalize fmul y v = m2 at *
  generalize fmul x v = m3 at *
  generalize fmul y u = m4 at *
  go_enter Try.func44, Try.ntmps44
  go_wp2
  go_ret
  exact ⟨rfl, Below.refl _ _⟩
theorem keepPo {W w1 : World} {b0 b1 p0 p1 q0 q1 : Nat} {c0 c1 d0 d1 : Value} (h : W.cell? ⟨b0, p0, none⟩ = some c0 ∧ W.cell? ⟨b0, p1, none⟩ = some c1 ∧ W.cell? ⟨b1, q0, none⟩ = some d0 ∧ W.cell? ⟨b1, q1, none⟩ = some d1 ∧ b0 < W.heap.size ∧ b1 < W.heap.size) (hb : Below W.heap.size W w1) :
    w1.cell? ⟨b0, p0, none⟩ = some c0 ∧ w1.cell? ⟨b0, p1, none⟩ = some c1 ∧ w1.cell? ⟨b1, q0, none⟩ = some d0 ∧ w1.cell? ⟨b1, q1, none⟩ = some d1 ∧ b0 < w1.heap.size ∧ b1 < w1.heap.size := by
  obtain ⟨h0, h1, k0, k1, l0, l1⟩ := h
  exact ⟨(hb.cell (p := ⟨b0, p0, none⟩) l0).trans h0, (hb.cell (p := ⟨b0, p1, none⟩) l0).trans h1, (hb.cell (p := ⟨b1, q0, none⟩) l1).trans k0, (hb.cell (p := ⟨b1, q1, none⟩) l1).trans k1, Nat.lt_of_lt_of_le l0 hb.size, Nat.lt_of_lt_of_le l1 hb.size⟩
theorem implPow_long (a : Option Addr) (cap : Nat) (vs : List RPw) (b : Option Addr) (cb : Nat) (ss : List RPw) (h : 4096 < vs.length ∨ vs.length ≤ 4096 ∧ 4096 < ss.length) (w : World) :
    Calls Try.prog 16 #[.slice a vs.length cap, .slice b ss.length cb] w (AnsPw w (0, 0) 2) := by
  unfold AnsPw
  rcases h with h | ⟨h0, h⟩
  · have h' : (4096 : Int) < (vs.length : Int) := by omega
    go_enter Try.func16, Try.ntmps16
    go_wp2
    refine bodyPost_ret (v := .tuple #[.agg #[.float .f64 0, .float .f64 0], .int .i64 2]) (by simp [results, Try.results16, go_sem]) rfl ⟨rfl, ?_⟩
    repeat (first | exact Below.refl _ _ | exact below_alloc _ _ | refine chain ?_ (below_alloc _ _) | refine Below.setCell ?_ (by dsimp only; omega) _)
  · have h' : ¬ (4096 : Int) < (vs.length : Int) := by omega
    have h2 : (4096 : Int) < (ss.length : Int) := by omega
    go_enter Try.func16, Try.ntmps16
    go_wp2
    refine bodyPost_ret (v := .tuple #[.agg #[.float .f64 0, .float .f64 0], .int .i64 2]) (by simp [results, Try.results16, go_sem]) rfl ⟨rfl, ?_⟩
    repeat (first | exact Below.refl _ _ | exact below_alloc _ _ | refine chain ?_ (below_alloc _ _) | refine Below.setCell ?_ (by dsimp only; omega) _)
set_option maxHeartbeats 4000000 in
theorem implPow_bad (a : Option Addr) (cap : Nat) (vs : List RPw) (b : Option Addr) (cb : Nat) (ss : List RPw) (hl : vs.length ≤ 4096) (hm : ss.length ≤ 4096) (w : World) (hr : ReadsPw w.heap.size w a vs) (hs : ReadsPw w.heap.size w b ss) (c : Int)
    (h : (pwR vs = false ∧ c = 1) ∨ (pwR vs = true ∧ pwR ss = false ∧ c = 1) ∨ (pwR vs = true ∧ pwR ss = true ∧ vs.length ≠ ss.length ∧ c = 3)) :
    Calls Try.prog 16 #[.slice a vs.length cap, .slice b ss.length cb] w (AnsPw w (0, 0) c) := by
  have HP : Hid (∀ W, Below w.heap.size w W → Calls Try.prog 43 #[.slice a vs.length cap] W fun e w' => e = .returned (.bool (pwR vs)) ∧ Below W.heap.size W w') := fun W hb => powersOK_any a cap vs (by omega) W ((hr.below hb).mono hb.size)
  have HS : Hid (∀ W, Below w.heap.size w W → Calls Try.prog 43 #[.slice b ss.length cb] W fun e w' => e = .returned (.bool (pwR ss)) ∧ Below W.heap.size W w') := fun W hb => powersOK_any b cb ss (by omega) W ((hs.below hb).mono hb.size)
  have h1' : ¬ (4096 : Int) < (vs.length : Int) := by omega
  have h2' : ¬ (4096 : Int) < (ss.length : Int) := by omega
  have HH : Hid ((pwR vs = false ∧ c = 1) ∨ (pwR vs = true ∧ pwR ss = false ∧ c = 1) ∨ (pwR vs = true ∧ pwR ss = true ∧ vs.length ≠ ss.length ∧ c = 3)) := h
  clear hr hs h
  unfold AnsPw
  generalize pwR vs = b1 at *
  generalize pwR ss = b2 at *
  go_enter Try.func16, Try.ntmps16
  go_wp2_with fail
  (first | go_at_call 43 | skip)
  refine (HP.out _ (below_alloc _ _)).mono ?_
  rintro e w1 ⟨rfl, hb1⟩
  have q := hb1.block w.heap.size (by simp)
  rw [heapNew] at q
  have HB : Hid (Below w.heap.size w w1) := chain (below_alloc _ _) hb1
  have HQ : Hid (w1.heap[w.heap.size]? = some (.cells #[.float .f64 0, .float .f64 0] 43 (0, 0))) := q
  clear q hb1
  cases b1
  · obtain rfl : c = 1 := by
      rcases HH.out with h | h | h
      · exact h.2
      · exact absurd h.1 (by simp)
      · exact absurd h.1 (by simp)
    obtain ⟨⟨q0, f0⟩, q1, f1⟩ := two_cells HQ.out
    go_wp2
    refine bodyPost_ret (v := .tuple #[.agg #[.float .f64 0, .float .f64 0], .int .i64 1]) (by simp [results, Try.results16, go_sem, q0, q1]) rfl ⟨rfl, ?_⟩
    exact (HB.out.setCell (p := ⟨w.heap.size, 0, none⟩) (Nat.le_refl _) _).setCell (p := ⟨w.heap.size, 1, none⟩) (Nat.le_refl _) _
  · go_wp2_with fail
    (first | go_at_call 43 | skip)
    refine (HS.out _ HB.out).mono ?_
    rintro e w2 ⟨rfl, hb2⟩
    have HB2 : Hid (Below w.heap.size w w2) := chain HB.out hb2
    obtain ⟨⟨q0, f0⟩, q1, f1⟩ := two_cells ((hb2.block _ (blkLt HQ.out)).trans HQ.out)
    clear hb2
    cases b2
    · obtain rfl : c = 1 := by
        rcases HH.out with h | h | h
        · exact h.2
        · exact h.2.2
        · exact absurd h.2.1 (by simp)
      go_wp2
      refine bodyPost_ret (v := .tuple #[.agg #[.float .f64 0, .float .f64 0], .int .i64 1]) (by simp [results, Try.results16, go_sem, q0, q1]) rfl ⟨rfl, ?_⟩
      exact (HB2.out.setCell (p := ⟨w.heap.size, 0, none⟩) (Nat.le_refl _) _).setCell (p := ⟨w.heap.size, 1, none⟩) (Nat.le_refl _) _
    · obtain ⟨hne, rfl⟩ : vs.length ≠ ss.length ∧ c = 3 := by
        rcases HH.out with h | h | h
        · exact absurd h.1 (by simp)
        · exact absurd h.2.1 (by simp)
        · exact h.2.2
      have hne' : ((vs.length : Int) != (ss.length : Int)) = true := by simp; omega
      go_wp2
      refine bodyPost_ret (v := .tuple #[.agg #[.float .f64 0, .float .f64 0], .int .i64 3]) (by simp [results, Try.results16, go_sem, q0, q1]) rfl ⟨rfl, ?_⟩
      exact (HB2.out.setCell (p := ⟨w.heap.size, 0, none⟩) (Nat.le_refl _) _).setCell (p := ⟨w.heap.size, 1, none⟩) (Nat.le_refl _) _
end Go.Proofs.Ytillkllkekhmfaa
