/-
  Contract of the program's Bridge, for all arguments.
-/
import Derived.Test.YtillkllkekhmfaaPwN
namespace Go.Proofs.Ytillkllkekhmfaa
open Go.ChangeShapes Go.WideShapes Go.ChangeAt Go.RowKit Go.Joins Go.Deep
set_option linter.unusedVariables false
attribute [local go_sem] run_store_float

theorem br_ways (rs : List RPw) : (4096 < rs.length ∧ brC rs = 2 ∧ brA rs = (0, 0)) ∨ (rs.length ≤ 4096 ∧ pwR rs = false ∧ brC rs = 1 ∧ brA rs = (0, 0)) ∨ (rs.length ≤ 12 ∧ pwR rs = true ∧ nzB rs = false ∧ brC rs = 10 ∧ brA rs = (0, 0)) ∨ (rs.length ≤ 12 ∧ pwR rs = true ∧ nzB rs = true ∧ brC rs = 0 ∧ brA rs = brT rs rs.length) := by
  unfold brA brC
  by_cases h : 4096 < rs.length
  · rw [if_pos h]; exact .inl ⟨h, rfl, rfl⟩
  · rw [if_neg h]
    cases h1 : pwR rs
    · exact .inr (.inl ⟨by omega, rfl, rfl, rfl⟩)
    · have h2 := (pwR_right h1).1
      cases h3 : nzB rs
      · exact .inr (.inr (.inl ⟨h2, rfl, rfl, rfl, rfl⟩))
      · exact .inr (.inr (.inr ⟨h2, rfl, rfl, rfl, rfl⟩))
theorem implBridge_long (a : Option Addr) (cap : Nat) (rs : List RPw) (h : 4096 < rs.length) (w : World) :
    Calls Try.prog 18 #[.slice a rs.length cap] w (AnsPw w (0, 0) 2) := by
  have h' : (4096 : Int) < (rs.length : Int) := by omega
  unfold AnsPw
  go_enter Try.func18, Try.ntmps18
  go_wp2
  refine bodyPost_ret (v := .tuple #[.agg #[.float .f64 0, .float .f64 0], .int .i64 2]) (by simp [results, Try.results18, go_sem]) rfl ⟨rfl, ?_⟩
  repeat (first | exact Below.refl _ _ | exact below_alloc _ _ | refine chain ?_ (below_alloc _ _) | refine Below.setCell ?_ (by dsimp only; omega) _)
theorem implBridge_bad (a : Option Addr) (cap : Nat) (rs : List RPw) (hl : rs.length ≤ 4096) (h : pwR rs = false) (w : World) (hr : ReadsPw w.heap.size w a rs) :
    Calls Try.prog 18 #[.slice a rs.length cap] w (AnsPw w (0, 0) 1) := by
  have HP : Hid (∀ W, Below w.heap.size w W → Calls Try.prog 43 #[.slice a rs.length cap] W fun e w' => e = .returned (.bool false) ∧ Below W.heap.size W w') := fun W hb => by rw [← h]; exact powersOK_any a cap rs (by omega) W ((hr.below hb).mono hb.size)
  have h' : ¬ (4096 : Int) < (rs.length : Int) := by omega
  clear hr h
  unfold AnsPw
  go_enter Try.func18, Try.ntmps18
  go_wp2_with fail
  (first | go_at_call 43 | skip)
  refine (HP.out _ (below_alloc _ _)).mono ?_
  rintro e w1 ⟨rfl, hb1⟩
  have q := hb1.block w.heap.size (by simp)
  rw [heapNew] at q
  have HB : Hid (Below w.heap.size w w1) := chain (below_alloc _ _) hb1
  obtain ⟨⟨q0, f0⟩, q1, f1⟩ := two_cells q
  clear q hb1
  go_wp2
  refine bodyPost_ret (v := .tuple #[.agg #[.float .f64 0, .float .f64 0], .int .i64 1]) (by simp [results, Try.results18, go_sem, q0, q1]) rfl ⟨rfl, ?_⟩
  exact (HB.out.setCell (p := ⟨w.heap.size, 0, none⟩) (Nat.le_refl _) _).setCell (p := ⟨w.heap.size, 1, none⟩) (Nat.le_refl _) _
set_option maxHeartbeats 16000000 in
theorem implBridge_right (a : Option Addr) (cap : Nat) (rs : List RPw) (hlen : rs.length ≤ 12) (h : pwR rs = true) (w : World) (hr : ReadsPw w.heap.size w a rs) :
    Calls Try.prog 18 #[.slice a rs.length cap] w (AnsPw w (if nzB rs = true then brT rs rs.length else (0, 0)) (if nzB rs = true then 0 else 10)) := by
  have HP : Hid (∀ W, Below w.heap.size w W → Calls Try.prog 43 #[.slice a rs.length cap] W fun e w' => e = .returned (.bool true) ∧ Below W.heap.size W w') := fun W hb => by rw [← h]; exact powersOK_any a cap rs (by omega) W ((hr.below hb).mono hb.size)
  have h' : ¬ (4096 : Int) < (rs.length : Int) := by omega
  have hp := (pwR_right h).2
  have HR : Hid (ReadsPw w.heap.size w a rs) := hr
  have HPo : Hid (∀ x y W, Calls Try.prog 47 #[.complex .f64 x y] W fun e' w' => e' = .returned (.agg #[.float .f64 x, .float .f64 y]) ∧ Below W.heap.size W w') := fun x y W => powerOf_any x y W
  have HNo : Hid (nzB rs = false → ∀ w', Below w.heap.size w w' → AnsPw w (if nzB rs = true then brT rs rs.length else (0, 0)) (if nzB rs = true then 0 else 10) (.returned (.tuple #[.agg #[.float .f64 0, .float .f64 0], .int .i64 10])) w') := fun h2 w' hb => by rw [h2]; exact ⟨rfl, hb⟩
  have HYe : Hid (nzB rs = true → ∀ w', Below w.heap.size w w' → AnsPw w (if nzB rs = true then brT rs rs.length else (0, 0)) (if nzB rs = true then 0 else 10) (.returned (.tuple #[.agg #[.float .f64 (brT rs rs.length).1, .float .f64 (brT rs rs.length).2], .int .i64 0])) w') := fun h2 w' hb => by rw [h2]; exact ⟨rfl, hb⟩
  clear hr h
  generalize AnsPw w (if nzB rs = true then brT rs rs.length else (0, 0)) (if nzB rs = true then 0 else 10) = ANS at *
  go_enter Try.func18, Try.ntmps18
  go_wp2_with fail
  (first | go_at_call 43 | skip)
  refine (HP.out _ (below_alloc _ _)).mono ?_
  rintro e w1 ⟨rfl, hb1⟩
  have q := hb1.block w.heap.size (by simp)
  rw [heapNew] at q
  have HQ : Hid (w1.heap[w.heap.size]? = some (.cells #[.float .f64 0, .float .f64 0] 43 (0, 0))) := q
  have HB1 : Hid (Below w.heap.size w w1) := chain (below_alloc _ _) hb1
  clear q hb1 HP
  go_wp2
  go_loopw [4, 18] (fun s i wr => ∃ k : Nat, k ≤ rs.length ∧ i = .int .i64 (k : Int) ∧ s = .complex .f64 (brT rs k).1 (brT rs k).2 ∧ nzB (rs.take k) = true ∧ Below w1.heap.size w1 wr) (fun _ i _ => rs.length - (intOf i).toNat)
  case atStart => exact ⟨0, Nat.zero_le _, rfl, rfl, rfl, Below.refl _ _⟩
  case round =>
    obtain ⟨k, hk, rfl, rfl, hnz, hb⟩ := hrel
    have HB : Hid (Below w1.heap.size w1 wr) := hb
    have HNZ : Hid (nzB (rs.take k) = true) := hnz
    have HBw : Hid (Below w.heap.size w wr) := chain HB1.out hb
    have HQr : Hid (wr.heap[w.heap.size]? = some (.cells #[.float .f64 0, .float .f64 0] 43 (0, 0))) := (hb.block _ (blkLt HQ.out)).trans HQ.out
    clear hb hnz
    by_cases hlt : k < rs.length
    · have hlt' : (k : Int) < (rs.length : Int) := by omega
      rcases HR.out with h | ⟨b0, o0, ha, hB0, ia⟩
      · rw [h] at hlt; simp at hlt
      obtain ⟨c0, c1⟩ := (ia.below HBw.out hB0) k hlt
      have lt0 : b0 < wr.heap.size := Nat.lt_of_lt_of_le hB0 HBw.out.size
      obtain ⟨e1, e2, e3, e4⟩ := br_some (pws_get hp hlt)
      have r1 := fun t W => run_float_arith (P := Try.prog) W .mul t .f64 _ _ _ e1
      have r2 := fun t W => run_float_arith (P := Try.prog) W .mul t .f64 _ _ _ e2
      have r3 := fun t W => run_float_arith (P := Try.prog) W .add t .f64 _ _ _ e3
      have hz := o_eq (brN (rs.getD k zPw)) 0
      have HNx : Hid (nzB (rs.take (k + 1)) = (nzB (rs.take k) && !eqF (brN (rs.getD k zPw)) 0)) := nz_take rs k hlt
      cases hez : eqF (brN (rs.getD k zPw)) 0 with
      | true =>
        have HF : Hid (nzB rs = false) := nz_fail hlt hez
        rw [hez] at hz
        rw [ha]
        clear ia e1 e2 e3 e4 hez HNx
        generalize brN (rs.getD k zPw) = n at *
        generalize fmul (rs.getD k zPw).re (rs.getD k zPw).re = m1 at *
        generalize fmul (rs.getD k zPw).im (rs.getD k zPw).im = m2 at *
        generalize (rs.getD k zPw).re = x at *
        generalize (rs.getD k zPw).im = y at *
        have hlw : w.heap.size < wr.heap.size := blkLt HQr.out
        obtain ⟨⟨q0, f0⟩, q1, f1⟩ := two_cells HQr.out
        go_wp2
        refine bodyPost_ret (v := .tuple #[.agg #[.float .f64 0, .float .f64 0], .int .i64 10]) (by simp [results, Try.results18, go_sem, q0, q1, hlw]) rfl (HNo.out HF.out _ ?_)
        exact chain ((HBw.out.setCell (p := ⟨w.heap.size, 0, none⟩) (Nat.le_refl _) _).setCell (p := ⟨w.heap.size, 1, none⟩) (Nat.le_refl _) _) (below_alloc _ _)
      | false =>
        obtain ⟨⟨e5, _⟩, e6, _⟩ := e4 hez
        obtain ⟨e7, _, _⟩ := brT_add hp hlt (by omega) HNZ.out hez
        have r5 := fun t W => run_float_arith (P := Try.prog) W .quo t .f64 _ _ _ e5
        have r6 := fun t W => run_float_arith (P := Try.prog) W .quo t .f64 _ _ _ e6
        have r7 := fun t W => run_complex_sum (P := Try.prog) W .add (.inl rfl) t .f64 _ _ _ _ (brT rs (k + 1)).1 (brT rs (k + 1)).2 e7
        have r8 := fun W => neg_run (P := Try.prog) (rs.getD k zPw).im W
        have HN2 : Hid (nzB (rs.take (k + 1)) = true) := by show _ = _; rw [HNx.out, hez, HNZ.out]; rfl
        rw [hez] at hz
        rw [ha]
        clear ia e1 e2 e3 e4 e5 e6 e7 hez HNx
        generalize fdiv (rs.getD k zPw).re (brN (rs.getD k zPw)) = d1 at *
        generalize fdiv (negF (rs.getD k zPw).im) (brN (rs.getD k zPw)) = d2 at *
        generalize negF (rs.getD k zPw).im = ny at *
        generalize brN (rs.getD k zPw) = n at *
        generalize fmul (rs.getD k zPw).re (rs.getD k zPw).re = m1 at *
        generalize fmul (rs.getD k zPw).im (rs.getD k zPw).im = m2 at *
        generalize (rs.getD k zPw).re = x at *
        generalize (rs.getD k zPw).im = y at *
        have HT : Hid (brT rs (k + 1) = brT rs (k + 1)) := rfl
        generalize hs1 : (brT rs (k + 1)).1 = s1 at *
        generalize hs2 : (brT rs (k + 1)).2 = s2 at *
        have HS : Hid ((brT rs (k + 1)).1 = s1 ∧ (brT rs (k + 1)).2 = s2) := ⟨hs1, hs2⟩
        clear hs1 hs2 HT
        generalize (brT rs k).1 = t1 at *
        generalize (brT rs k).2 = t2 at *
        go_wp2
        go_roundw
        case rel => exact ⟨k + 1, by omega, by go_num, by rw [HS.out.1, HS.out.2], HN2.out, chain HB.out (below_alloc _ _)⟩
        case measure => simp [intOf]; omega
    · have hle : (rs.length : Int) ≤ (k : Int) := by omega
      obtain rfl : k = rs.length := by omega
      have HF : Hid (nzB rs = true) := by have := HNZ.out; rwa [List.take_of_length_le (Nat.le_refl _)] at this
      have HY := HYe.out HF.out
      generalize (brT rs rs.length).1 = t1 at *
      generalize (brT rs rs.length).2 = t2 at *
      go_wp2_with fail
      (first | go_at_call 47 | skip)
      refine (HPo.out _ _ _).mono ?_
      rintro e w3 ⟨rfl, hb3⟩
      have HB3 : Hid (Below w.heap.size w w3) := chain HBw.out hb3
      obtain ⟨⟨q0, f0⟩, q1, f1⟩ := two_cells ((hb3.block _ (blkLt HQr.out)).trans HQr.out)
      clear hb3
      have HYY : Hid (∀ (w' : World), Below w.heap.size w w' → ANS (.returned (.tuple #[.agg #[.float .f64 t1, .float .f64 t2], .int .i64 0])) w') := HY
      clear HY
      go_wp2
      refine bodyPost_ret (v := .tuple #[.agg #[.float .f64 t1, .float .f64 t2], .int .i64 0]) (by simp [results, Try.results18, go_sem, q0, q1]) rfl (HYY.out _ ?_)
      exact ((HB3.out.setCell (p := ⟨w.heap.size, 0, none⟩) (Nat.le_refl _) _).setCell (p := ⟨w.heap.size, 1, none⟩) (Nat.le_refl _) _)
theorem implBridge_any (a : Option Addr) (cap : Nat) (rs : List RPw) (w : World) (hr : ReadsPw w.heap.size w a rs) :
    Calls Try.prog 18 #[.slice a rs.length cap] w (AnsPw w (brA rs) (brC rs)) := by
  rcases br_ways rs with ⟨h1, h2, h3⟩ | ⟨h0, h1, h2, h3⟩ | ⟨h0, h1, h4, h2, h3⟩ | ⟨h0, h1, h4, h2, h3⟩
  · rw [h2, h3]; exact implBridge_long a cap rs h1 w
  · rw [h2, h3]; exact implBridge_bad a cap rs h0 h1 w hr
  · have := implBridge_right a cap rs h0 h1 w hr
    rw [h4] at this
    rw [h2, h3]; exact this
  · have := implBridge_right a cap rs h0 h1 w hr
    rw [h4] at this
    rw [h2, h3]; exact this
end Go.Proofs.Ytillkllkekhmfaa
