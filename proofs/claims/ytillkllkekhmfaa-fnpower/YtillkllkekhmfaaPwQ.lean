/-
  The program's PowerOf at right powers, as many volts as amps.
-/
import Derived.Test.YtillkllkekhmfaaPwP
import Derived.Deep.RegionHeld3
namespace Go.Proofs.Ytillkllkekhmfaa
open Go.ChangeShapes Go.WideShapes Go.ChangeAt Go.RowKit Go.Joins Go.Deep
set_option linter.unusedVariables false
attribute [local go_sem] run_store_float

set_option maxHeartbeats 16000000 in
theorem implPow_right (a : Option Addr) (cap : Nat) (vs : List RPw) (b : Option Addr) (cb : Nat) (ss : List RPw) (hl : vs.length ≤ 12) (he : vs.length = ss.length) (hv : pwR vs = true) (hs : pwR ss = true) (w : World) (hr : ReadsPw w.heap.size w a vs) (hq : ReadsPw w.heap.size w b ss) :
    Calls Try.prog 16 #[.slice a vs.length cap, .slice b ss.length cb] w (AnsPw w (poT vs ss vs.length) 0) := by
  have HP : Hid (∀ W, Below w.heap.size w W → Calls Try.prog 43 #[.slice a vs.length cap] W fun e w' => e = .returned (.bool true) ∧ Below W.heap.size W w') := fun W hb => by rw [← hv]; exact powersOK_any a cap vs (by omega) W ((hr.below hb).mono hb.size)
  have HS : Hid (∀ W, Below w.heap.size w W → Calls Try.prog 43 #[.slice b ss.length cb] W fun e w' => e = .returned (.bool true) ∧ Below W.heap.size W w') := fun W hb => by rw [← hs]; exact powersOK_any b cb ss (by omega) W ((hq.below hb).mono hb.size)
  have h1' : ¬ (4096 : Int) < (vs.length : Int) := by omega
  have h2' : ¬ (4096 : Int) < (ss.length : Int) := by omega
  have hne' : ((vs.length : Int) != (ss.length : Int)) = false := by simp; omega
  have HE : Hid (vs.length = ss.length) := he
  have hpv := (pwR_right hv).2
  have hps := (pwR_right hs).2
  have HR : Hid (ReadsPw w.heap.size w a vs) := hr
  have HR2 : Hid (ReadsPw w.heap.size w b ss) := hq
  have HPo : Hid (∀ x y W, Calls Try.prog 47 #[.complex .f64 x y] W fun e' w' => e' = .returned (.agg #[.float .f64 x, .float .f64 y]) ∧ Below W.heap.size W w') := fun x y W => powerOf_any x y W
  clear hr hq hv hs he
  unfold AnsPw
  go_enter Try.func16, Try.ntmps16
  go_wp2_with fail
  (first | go_at_call 43 | skip)
  refine (HP.out _ (below_alloc _ _)).mono ?_
  rintro e w0 ⟨rfl, hb0⟩
  have q := hb0.block w.heap.size (by simp)
  rw [heapNew] at q
  have HB0 : Hid (Below w.heap.size w w0) := chain (below_alloc _ _) hb0
  have HQ0 : Hid (w0.heap[w.heap.size]? = some (.cells #[.float .f64 0, .float .f64 0] 43 (0, 0))) := q
  clear q hb0 HP
  go_wp2_with fail
  (first | go_at_call 43 | skip)
  refine (HS.out _ HB0.out).mono ?_
  rintro e w1 ⟨rfl, hb1⟩
  have HB1 : Hid (Below w.heap.size w w1) := chain HB0.out hb1
  have HQ : Hid (w1.heap[w.heap.size]? = some (.cells #[.float .f64 0, .float .f64 0] 43 (0, 0))) := (hb1.block _ (blkLt HQ0.out)).trans HQ0.out
  clear hb1 HB0 HQ0 HS
  go_wp2
  go_loopw [6, 35] (fun s i wr => ∃ k : Nat, k ≤ vs.length ∧ i = .int .i64 (k : Int) ∧ s = .complex .f64 (poT vs ss k).1 (poT vs ss k).2 ∧ Below w1.heap.size w1 wr) (fun _ i _ => vs.length - (intOf i).toNat)
  case atStart => exact ⟨0, Nat.zero_le _, rfl, rfl, Below.refl _ _⟩
  case round =>
    obtain ⟨k, hk, rfl, rfl, hb⟩ := hrel
    have HB : Hid (Below w1.heap.size w1 wr) := hb
    have HBw : Hid (Below w.heap.size w wr) := chain HB1.out hb
    have HQr : Hid (wr.heap[w.heap.size]? = some (.cells #[.float .f64 0, .float .f64 0] 43 (0, 0))) := (hb.block _ (blkLt HQ.out)).trans HQ.out
    clear hb
    by_cases hlt : k < vs.length
    · have hlt' : (k : Int) < (vs.length : Int) := by omega
      have hlt2 : (k : Int) < (ss.length : Int) := by have := HE.out; omega
      rcases HR.out with h | ⟨b0, o0, ha, hB0, ia⟩
      · rw [h] at hlt; simp at hlt
      rcases HR2.out with h | ⟨b1, o1, ha1, hB1, ia1⟩
      · rw [h] at hlt2; simp at hlt2; omega
      obtain ⟨c0, c1⟩ := (ia.below HBw.out hB0) k hlt
      have lt0 : b0 < wr.heap.size := Nat.lt_of_lt_of_le hB0 HBw.out.size
      have lt1 : b1 < wr.heap.size := Nat.lt_of_lt_of_le hB1 HBw.out.size
      have HC : Hid (∀ W, Below w.heap.size w W → PwAt W b1 (o1 + k * 2) (ss.getD k zPw)) := fun W hb => (ia1.below hb hB1) k (by omega)
      obtain ⟨q1, q2, q3, q4⟩ := po_pr hpv hps (k := k) hlt (by omega)
      have HPr : Hid (∀ W, Calls Try.prog 44 #[.complex .f64 (vs.getD k zPw).re (vs.getD k zPw).im, .complex .f64 (ss.getD k zPw).re (negF (ss.getD k zPw).im)] W fun e' w' => e' = .returned (.complex .f64 (prR (vs.getD k zPw).re (vs.getD k zPw).im (ss.getD k zPw).re (negF (ss.getD k zPw).im)) (prI (vs.getD k zPw).re (vs.getD k zPw).im (ss.getD k zPw).re (negF (ss.getD k zPw).im))) ∧ Below W.heap.size W w') := fun W => product_any q1 q2 q3 q4 W
      have HNu : Hid (∀ W, Calls Try.prog 45 #[.agg #[.float .f64 (vs.getD k zPw).re, .float .f64 (vs.getD k zPw).im]] W fun e' w' => e' = .returned (.complex .f64 (vs.getD k zPw).re (vs.getD k zPw).im) ∧ Below W.heap.size W w') := fun W => number_any _ _ W
      have HTu : Hid (∀ W, Calls Try.prog 46 #[.agg #[.float .f64 (ss.getD k zPw).re, .float .f64 (ss.getD k zPw).im]] W fun e' w' => e' = .returned (.complex .f64 (ss.getD k zPw).re (negF (ss.getD k zPw).im)) ∧ Below W.heap.size W w') := fun W => turned_any _ _ W
      obtain ⟨e7, _, _⟩ := poT_add hpv hps HE.out hlt (by omega)
      have r7 := fun t W => run_complex_sum (P := Try.prog) W .add (.inl rfl) t .f64 _ _ _ _ (poT vs ss (k + 1)).1 (poT vs ss (k + 1)).2 e7
      rw [ha, ha1]
      clear ia ia1 e7 q1 q2 q3 q4
      generalize prR (vs.getD k zPw).re (vs.getD k zPw).im (ss.getD k zPw).re (negF (ss.getD k zPw).im) = d1 at *
      generalize prI (vs.getD k zPw).re (vs.getD k zPw).im (ss.getD k zPw).re (negF (ss.getD k zPw).im) = d2 at *
      generalize negF (ss.getD k zPw).im = nv at *
      generalize ss.getD k zPw = r2 at *
      obtain ⟨u, v⟩ := r2
      generalize (vs.getD k zPw).re = x at *
      generalize (vs.getD k zPw).im = y at *
      generalize hs1 : (poT vs ss (k + 1)).1 = s1 at *
      generalize hs2 : (poT vs ss (k + 1)).2 = s2 at *
      have HSS : Hid ((poT vs ss (k + 1)).1 = s1 ∧ (poT vs ss (k + 1)).2 = s2) := ⟨hs1, hs2⟩
      clear hs1 hs2
      generalize (poT vs ss k).1 = t1 at *
      generalize (poT vs ss k).2 = t2 at *
      dsimp only at HNu HTu HPr
      go_upto_region 11 with fail
      obtain ⟨wb, hwb⟩ : ∃ wb, wb = wr.alloc (Obj.cells #[.float .f64 x, .float .f64 y] 43) := ⟨_, rfl⟩
      have hbb : Below wr.heap.size wr wb := by rw [hwb]; exact below_alloc _ _
      have g := heapNew wr (Obj.cells #[.float .f64 x, .float .f64 y] 43)
      rw [← hwb] at g ⊢
      obtain ⟨⟨x0, _⟩, x1, _⟩ := two_cells g
      obtain ⟨d0, d1'⟩ := HC.out wb (chain HBw.out hbb)
      dsimp only at d0 d1'
      have ltg := blkLt g
      have ltb : b1 < wb.heap.size := Nat.lt_of_lt_of_le lt1 hbb.size
      have HBb : Hid (∀ W, Below wb.heap.size wb W → Below w1.heap.size w1 W) := fun W h => chain HB.out (chain hbb h)
      clear hwb hbb g c0 c1
      generalize wr.heap.size = E at *
      go_region_held3 (fun W => W.cell? ⟨E, 0, none⟩ = some (.float .f64 x) ∧ W.cell? ⟨E, 1, none⟩ = some (.float .f64 y) ∧ W.cell? ⟨b1, o1 + k * 2, none⟩ = some (.float .f64 u) ∧ W.cell? ⟨b1, o1 + k * 2 + 1, none⟩ = some (.float .f64 v) ∧ E < W.heap.size ∧ b1 < W.heap.size) (first | exact ⟨x0, x1, d0, d1', ltg, ltb⟩ | exact keepPo (by assumption) (by assumption)) (first | (go_at_call 45; refine (HNu.out _).mono ?_; rintro e w2 ⟨rfl, hb2⟩) | (go_at_call 46; refine (HTu.out _).mono ?_; rintro e w3 ⟨rfl, hb3⟩) | (go_at_call 44; refine (HPr.out _).mono ?_; rintro e w4 ⟨rfl, hb4⟩))
      have HB4 : Hid (Below w1.heap.size w1 w4) := HBb.out _ (chain (below_drew _) (chain hb2 (chain hb3 hb4)))
      go_wp2
      go_roundw
      case rel => exact ⟨k + 1, by omega, by go_num, by rw [HSS.out.1, HSS.out.2], HB4.out⟩
      case measure => simp [intOf]; omega
    · have hle : ¬ (k : Int) < (vs.length : Int) := by omega
      obtain rfl : k = vs.length := by omega
      go_wp2_with fail
      (first | go_at_call 47 | skip)
      refine (HPo.out _ _ _).mono ?_
      rintro e w3 ⟨rfl, hb3⟩
      have HB3 : Hid (Below w.heap.size w w3) := chain HBw.out hb3
      obtain ⟨⟨q0, f0⟩, q1, f1⟩ := two_cells ((hb3.block _ (blkLt HQr.out)).trans HQr.out)
      clear hb3
      go_wp2
      refine bodyPost_ret (v := .tuple #[.agg #[.float .f64 (poT vs ss vs.length).1, .float .f64 (poT vs ss vs.length).2], .int .i64 0]) (by simp [results, Try.results16, go_sem, q0, q1]) rfl ⟨rfl, ?_⟩
      exact ((HB3.out.setCell (p := ⟨w.heap.size, 0, none⟩) (Nat.le_refl _) _).setCell (p := ⟨w.heap.size, 1, none⟩) (Nat.le_refl _) _)
theorem implPow_any (a : Option Addr) (cap : Nat) (vs : List RPw) (b : Option Addr) (cb : Nat) (ss : List RPw) (w : World) (hr : ReadsPw w.heap.size w a vs) (hq : ReadsPw w.heap.size w b ss) :
    Calls Try.prog 16 #[.slice a vs.length cap, .slice b ss.length cb] w (AnsPw w (poA vs ss) (poC vs ss)) := by
  rcases po_ways vs ss with ⟨h1, h2, h3⟩ | ⟨h0, h1, h2, h3⟩ | ⟨h0, h1, h4, h2, h3⟩ | ⟨h0, h1, h4, h5, h2, h3⟩ | ⟨h0, h1, h4, h5, h6, h2, h3⟩ | ⟨h0, h1, h4, h5, h6, h2, h3⟩
  · rw [h2, h3]; exact implPow_long a cap vs b cb ss (.inl h1) w
  · rw [h2, h3]; exact implPow_long a cap vs b cb ss (.inr ⟨h0, h1⟩) w
  · rw [h2, h3]; exact implPow_bad a cap vs b cb ss h0 h1 w hr hq 1 (.inl ⟨h4, rfl⟩)
  · rw [h2, h3]; exact implPow_bad a cap vs b cb ss h0 h1 w hr hq 1 (.inr (.inl ⟨h4, h5, rfl⟩))
  · rw [h2, h3]; exact implPow_bad a cap vs b cb ss (by omega) (by omega) w hr hq 3 (.inr (.inr ⟨h4, h5, h6, rfl⟩))
  · rw [h2, h3]; exact implPow_right a cap vs b cb ss h0 h6 h4 h5 w hr hq
end Go.Proofs.Ytillkllkekhmfaa
