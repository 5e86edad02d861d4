/-
  The laws' own helpers on lists of tax lines, of tax sums and of tax rows.
-/
import Derived.Test.YtaledfdhiimhdakBookA
import Derived.Test.YtaledfdhiimhdakTaxF
import Derived.Test.YtaledfdhiimhdakMark0
import Derived.Test.YtaledfdhiimhdakMarkText
namespace Go.Proofs.Ytaledfdhiimhdak
open Go.ChangeShapes Go.WideShapes Go.ChangeAt Go.RowKit Go.Deep
set_option linter.unusedVariables false

theorem szLines_any (a : Option Addr) (cap : Nat) (ls : List TL) (hl : ls.length ≤ maxLen) (x : Int) (hx0 : 0 ≤ x) (hx1 : x ≤ 1048576) (w : World) :
    Calls Try.prog 5 #[.slice a ls.length cap, .int .i64 x] w fun e w' => (∃ y : Int, e = .returned (.int .i64 y) ∧ (y < 0 ∨ (0 ≤ y ∧ ls.length ≤ 1048576))) ∧ w' = w := by
  unfold maxLen at hl
  have hwr : IntKind.i64.wrap (x - (ls.length : Int)) = x - (ls.length : Int) := wrap_id _ (by omega) (by omega)
  by_cases h : x - (ls.length : Int) < 0
  · go_enter Try.func5, Try.ntmps5
    go_wp2
    go_ret
    exact ⟨⟨-1, rfl, .inl (by omega)⟩, rfl⟩
  · have h' : 0 ≤ x - (ls.length : Int) := by omega
    go_enter Try.func5, Try.ntmps5
    go_wp2
    go_ret
    exact ⟨⟨_, rfl, .inr ⟨h', by omega⟩⟩, rfl⟩
theorem toLine_any (c g : Int) (w : World) :
    Calls Try.prog 24 #[.agg #[.int .i64 c, .int .i64 g]] w fun e w' => e = .returned (.agg #[.int .i64 c, .int .i64 g]) ∧ Below w.heap.size w w' := by
  have l1 : ∀ n : Nat, n < n + 1 + 1 := fun n => by omega
  have l2 : ∀ n : Nat, n < n + 2 := fun n => by omega
  have l3 : ∀ n : Nat, n < n + 3 := fun n => by omega
  have l4 : ∀ n : Nat, n + 1 < n + 3 := fun n => by omega
  have l5 : ∀ n : Nat, n + 2 < n + 3 := fun n => by omega
  go_enter Try.func24, Try.ntmps24
  go_wp2
  refine bodyPost_ret (v := .agg #[.int .i64 c, .int .i64 g]) (by simp [results, Try.results24, go_sem]) rfl ⟨rfl, ?_⟩
  exact chain (chain (below_alloc _ _) (below_alloc _ _)) (below_alloc _ _)
def tlCell (l : TL) (j : Nat) : Value := if j = 0 then .int .i64 l.cl else .int .i64 l.gr
theorem lineInfo : (Try.prog.info? 49).map (fun i => (i.zero, i.size, i.bytes)) = some (some (.agg #[.int .i64 0, .int .i64 0]), 2, 16) := by kernel_rfl
theorem make_lines (n : Nat) (hn : n ≤ 100000000) (w : World) :
    (Instr.makeSlice 31 (.int .i64 (n : Int)) (.int .i64 (n : Int))).run Try.prog w = .ok (.slice (some ⟨w.heap.size, 0, none⟩) n n) (w.alloc (.cells (madeCells #[.int .i64 0, .int .i64 0] (n * 2)) 49)) := by
  obtain ⟨i, hi, hzz⟩ := Option.map_eq_some_iff.1 lineInfo
  simp only [Prod.mk.injEq] at hzz
  obtain ⟨hz, hs, hb⟩ := hzz
  have hr := run_make (P := Try.prog) w 31 49 i _ Try.underlying31 hi hz .i64 .i64 (n : Int) (n : Int) (by omega) (Int.le_refl _) (by rw [hb]; omega) (by omega)
  simp only [Int.toNat_natCast, hs] at hr
  exact hr
def tlFill (ls : List TL) (k j : Nat) : Value := tlCell (if j / 2 < k then ls.getD (j / 2) tl0 else tl0) (j % 2)
theorem lines_made (w : World) (ls : List TL) (n : Nat) : (w.alloc (.cells (madeCells #[.int .i64 0, .int .i64 0] (n * 2)) 49)).rowIs w.heap.size 49 (n * 2) (tlFill ls 0) := by
  refine ⟨_, heapNew _ _, size_madeCells _ _, fun i hi => ?_⟩
  have h4 : i % 2 = 0 ∨ i % 2 = 1 := by omega
  unfold tlFill tlCell tl0
  rcases h4 with h | h <;> simp [madeCells, hi, h]
theorem tlFill_set {w : World} {b : Nat} {ls : List TL} {n k : Nat} (h : w.rowIs b 49 (n * 2) (tlFill ls k)) :
    ((w.setCell ⟨b, k * 2, none⟩ (.int .i64 (ls.getD k tl0).cl)).setCell ⟨b, k * 2 + 1, none⟩ (.int .i64 (ls.getD k tl0).gr)).rowIs b 49 (n * 2) (tlFill ls (k + 1)) := by
  refine ((h.set (k * 2) _).set (k * 2 + 1) _).congr fun j hj => ?_
  unfold tlFill
  by_cases e1 : j = k * 2 + 1
  · rw [if_pos e1, if_pos (by omega), show j / 2 = k by omega, show j % 2 = 1 by omega]; rfl
  rw [if_neg e1]
  by_cases e0 : j = k * 2
  · rw [if_pos e0, if_pos (by omega), show j / 2 = k by omega, show j % 2 = 0 by omega]; rfl
  rw [if_neg e0]
  by_cases h : j / 2 < k
  · rw [if_pos h, if_pos (by omega)]
  · rw [if_neg h, if_neg (by omega)]
def FreeL (w : World) (b n : Nat) : Prop := ∀ j, j < n → w.frozen? ⟨b, j, none⟩ = false
theorem FreeL.below {B : Nat} {w w' : World} {b n : Nat} (h : FreeL w b n) (hb : Below B w w') (hB : b < B) : FreeL w' b n := fun j hj => (hb.frozen (p := ⟨b, j, none⟩) hB).trans (h j hj)
theorem FreeT.below {B : Nat} {w w' : World} {b n : Nat} (h : FreeT w b n) (hb : Below B w w') (hB : b < B) : FreeT w' b n := fun j hj => (hb.frozen (p := ⟨b, j, none⟩) hB).trans (h j hj)
theorem linesAt_of {w : World} {b : Nat} {ls : List TL} (h : w.rowIs b 49 (ls.length * 2) (tlFill ls ls.length)) : LinesAt w b 0 ls := fun i hi => by
  refine ⟨?_, ?_⟩
  · rw [h.cell (i := 0 + i * 2) (by omega)]; unfold tlFill; rw [if_pos (by omega), show (0 + i * 2) / 2 = i by omega, show (0 + i * 2) % 2 = 0 by omega]; rfl
  · rw [h.cell (i := 0 + i * 2 + 1) (by omega)]; unfold tlFill; rw [if_pos (by omega), show (0 + i * 2 + 1) / 2 = i by omega, show (0 + i * 2 + 1) % 2 = 1 by omega]; rfl

set_option maxHeartbeats 2000000 in
theorem toLines_any (a : Option Addr) (cap : Nat) (ls : List TL) (hn : ls.length ≤ 1048576) (w : World) (hr : ReadsL w.heap.size w a ls) :
    Calls Try.prog 8 #[.slice a ls.length cap] w fun e w' => e = .returned (.slice (some ⟨w.heap.size, 0, none⟩) ls.length ls.length) ∧ Below w.heap.size w w' ∧ w.heap.size < w'.heap.size ∧ LinesAt w' w.heap.size 0 ls ∧ FreeL w' w.heap.size (ls.length * 2) := by
  have hmk := fun w => make_lines ls.length (by omega) w
  have HM : Hid ((w.alloc (.cells (madeCells #[.int .i64 0, .int .i64 0] (ls.length * 2)) 49)).rowIs w.heap.size 49 (ls.length * 2) (tlFill ls 0)) := lines_made w ls ls.length
  have HR : Hid (ReadsL w.heap.size w a ls) := hr
  clear hr
  go_enter Try.func8, Try.ntmps8
  go_wp2
  go_loopw [4] (fun i wr => ∃ k : Nat, k ≤ ls.length ∧ i = .int .i64 (k : Int) ∧ Below w.heap.size w wr ∧ wr.rowIs w.heap.size 49 (ls.length * 2) (tlFill ls k)) (fun i _ => ls.length - (intOf i).toNat)
  case atStart => exact ⟨0, Nat.zero_le _, rfl, below_alloc _ _, HM.out⟩
  case round =>
    obtain ⟨k, hk, rfl, hb, hrow⟩ := hrel
    have HB : Hid (Below w.heap.size w wr) := hb
    have HW : Hid (wr.rowIs w.heap.size 49 (ls.length * 2) (tlFill ls k)) := hrow
    clear hb hrow
    by_cases hlt : k < ls.length
    · have hlt' : (k : Int) < (ls.length : Int) := by omega
      rcases HR.out with h | ⟨b0, o0, ha, hB0, ia⟩
      · rw [h] at hlt; simp at hlt
      obtain ⟨c0, c1⟩ := (ia.below HB.out hB0) k hlt
      have HN : Hid (∀ w2, Below wr.heap.size wr w2 → ((w2.setCell ⟨w.heap.size, k * 2, none⟩ (.int .i64 (ls.getD k tl0).cl)).setCell ⟨w.heap.size, k * 2 + 1, none⟩ (.int .i64 (ls.getD k tl0).gr)).rowIs w.heap.size 49 (ls.length * 2) (tlFill ls (k + 1)) ∧ Below w.heap.size w ((w2.setCell ⟨w.heap.size, k * 2, none⟩ (.int .i64 (ls.getD k tl0).cl)).setCell ⟨w.heap.size, k * 2 + 1, none⟩ (.int .i64 (ls.getD k tl0).gr)) ∧ (∃ v0 v1, w2.cell? ⟨w.heap.size, k * 2, none⟩ = some v0 ∧ w2.cell? ⟨w.heap.size, k * 2 + 1, none⟩ = some v1) ∧ (∀ j, w2.frozen? ⟨w.heap.size, j, none⟩ = false)) := fun w2 hb2 => by
        have hw2 := HW.out.of_block (hb2.block _ HW.out.lt)
        exact ⟨tlFill_set hw2, (((HB.out.trans (hb2.mono HB.out.size)).setCell (Nat.le_refl _) _).setCell (Nat.le_refl _) _), ⟨_, _, hw2.cell (by omega), hw2.cell (by omega)⟩, fun j => hw2.frozen j⟩
      rw [ha]
      clear ia
      generalize ls.getD k tl0 = r at *
      obtain ⟨rc, rg⟩ := r
      dsimp only at c0 c1 HN
      go_wp2_with (go_at_call 24; refine (toLine_any _ _ _).mono ?_; rintro e w2 ⟨rfl, hb2⟩; obtain ⟨n1, n2, ⟨v0, v1, hv0, hv1⟩, n4⟩ := HN.out w2 hb2; have N1 : Hid (_) := n1; have N2 : Hid (_) := n2; clear n1 n2)
      go_roundw
      case rel => exact ⟨k + 1, by omega, by go_num, N2.out, N1.out⟩
      case measure => simp [intOf]; omega
    · obtain rfl : k = ls.length := by omega
      go_wp2
      go_ret
      exact ⟨rfl, HB.out, HW.out.lt, linesAt_of HW.out, fun j hj => HW.out.frozen j⟩
theorem eqLine_any (c g : Int) (w : World) :
    Calls Try.prog 38 #[.agg #[.int .i64 c, .int .i64 g], .agg #[.int .i64 c, .int .i64 g]] w fun e w' => e = .returned (.bool true) ∧ Below w.heap.size w w' := by
  have l1 : ∀ n : Nat, n < n + 1 + 1 := fun n => by omega
  have l2 : ∀ n : Nat, n < n + 2 := fun n => by omega
  go_enter Try.func38, Try.ntmps38
  go_wp2
  go_ret
  exact ⟨rfl, chain (below_alloc _ _) (below_alloc _ _)⟩
theorem keep4 {W w1 : World} {b0 b1 p0 p1 q0 q1 : Nat} {c0 c1 d0 d1 : Value} (hb : Below W.heap.size W w1) (h : W.cell? ⟨b0, p0, none⟩ = some c0 ∧ W.cell? ⟨b0, p1, none⟩ = some c1 ∧ W.cell? ⟨b1, q0, none⟩ = some d0 ∧ W.cell? ⟨b1, q1, none⟩ = some d1 ∧ b0 < W.heap.size ∧ b1 < W.heap.size) :
    w1.cell? ⟨b0, p0, none⟩ = some c0 ∧ w1.cell? ⟨b0, p1, none⟩ = some c1 ∧ w1.cell? ⟨b1, q0, none⟩ = some d0 ∧ w1.cell? ⟨b1, q1, none⟩ = some d1 ∧ b0 < w1.heap.size ∧ b1 < w1.heap.size := by
  obtain ⟨h0, h1, k0, k1, l0, l1⟩ := h
  exact ⟨(hb.cell (p := ⟨b0, p0, none⟩) l0).trans h0, (hb.cell (p := ⟨b0, p1, none⟩) l0).trans h1, (hb.cell (p := ⟨b1, q0, none⟩) l1).trans k0, (hb.cell (p := ⟨b1, q1, none⟩) l1).trans k1, Nat.lt_of_lt_of_le l0 hb.size, Nat.lt_of_lt_of_le l1 hb.size⟩

set_option maxHeartbeats 2000000 in
theorem eqLines_any (a b : Option Addr) (ca cb : Nat) (ls : List TL) (hn : ls.length ≤ 1048576) (w : World) (ra : ReadsL w.heap.size w a ls) (rb : ReadsL w.heap.size w b ls) :
    Calls Try.prog 12 #[.slice a ls.length ca, .slice b ls.length cb] w fun e w' => e = .returned (.bool true) ∧ Below w.heap.size w w' := by
  have HA : Hid (ReadsL w.heap.size w a ls) := ra
  have HBb : Hid (ReadsL w.heap.size w b ls) := rb
  clear ra rb
  go_enter Try.func12, Try.ntmps12
  go_wp2
  go_loopw [5] (fun i wr => ∃ k : Nat, k ≤ ls.length ∧ i = .int .i64 (k : Int) ∧ Below w.heap.size w wr) (fun i _ => ls.length - (intOf i).toNat)
  case atStart => exact ⟨0, Nat.zero_le _, rfl, Below.refl _ _⟩
  case round =>
    obtain ⟨k, hk, rfl, hb⟩ := hrel
    have HB : Hid (Below w.heap.size w wr) := hb
    clear hb
    by_cases hlt : k < ls.length
    · have hlt' : (k : Int) < (ls.length : Int) := by omega
      rcases HA.out with h | ⟨b0, o0, ha, hB0, ia⟩
      · rw [h] at hlt; simp at hlt
      rcases HBb.out with h | ⟨b1, o1, hbb, hB1, ib⟩
      · rw [h] at hlt; simp at hlt
      obtain ⟨c0, c1⟩ := (ia.below HB.out hB0) k hlt
      obtain ⟨d0, d1⟩ := (ib.below HB.out hB1) k hlt
      have lt0 : b0 < wr.heap.size := Nat.lt_of_lt_of_le hB0 HB.out.size
      have lt1 : b1 < wr.heap.size := Nat.lt_of_lt_of_le hB1 HB.out.size
      rw [ha, hbb]
      clear ia ib
      generalize ls.getD k tl0 = r at *
      obtain ⟨rc, rg⟩ := r
      dsimp only at c0 c1 d0 d1
      go_wp2
      go_region_held3 (fun W => W.cell? ⟨b0, o0 + k * 2, none⟩ = some (.int .i64 rc) ∧ W.cell? ⟨b0, o0 + k * 2 + 1, none⟩ = some (.int .i64 rg) ∧ W.cell? ⟨b1, o1 + k * 2, none⟩ = some (.int .i64 rc) ∧ W.cell? ⟨b1, o1 + k * 2 + 1, none⟩ = some (.int .i64 rg) ∧ b0 < W.heap.size ∧ b1 < W.heap.size) (first | exact ⟨c0, c1, d0, d1, lt0, lt1⟩ | exact keep4 (by assumption) (by assumption)) (first | (go_at_call 38; refine (eqLine_any _ _ _).mono ?_; rintro e w2 ⟨rfl, hb2⟩))
      have HB2 : Hid (Below w.heap.size w w2) := chain HB.out.drew hb2
      go_wp2
      go_roundw
      case rel => exact ⟨k + 1, by omega, by go_num, HB2.out⟩
      case measure => simp [intOf]; omega
    · go_wp2
      go_ret
      exact ⟨rfl, HB.out⟩

theorem lines_some {w : World} {b : Nat} {ls : List TL} (h : LinesAt w b 0 ls) : ∀ j, j < ls.length * 2 → (w.cell? ⟨b, j, none⟩).isSome = true := fun j hj => by
  obtain ⟨h0, h1⟩ := h (j / 2) (by omega)
  rcases (show j % 2 = 0 ∨ j % 2 = 1 by omega) with e | e
  · rw [show j = 0 + j / 2 * 2 by omega, h0]; rfl
  · rw [show j = 0 + j / 2 * 2 + 1 by omega, h1]; rfl
theorem rows_some {w : World} {b : Nat} {rs : List TR} (h : RowsAt w b 0 rs) : ∀ j, j < rs.length * 6 → (w.cell? ⟨b, j, none⟩).isSome = true := fun j hj => by
  obtain ⟨h0, h1, h2, h3, h4, h5⟩ := h (j / 6) (by omega)
  rcases (show j % 6 = 0 ∨ j % 6 = 1 ∨ j % 6 = 2 ∨ j % 6 = 3 ∨ j % 6 = 4 ∨ j % 6 = 5 by omega) with e | e | e | e | e | e
  · rw [show j = 0 + j / 6 * 6 by omega, h0]; rfl
  · rw [show j = 0 + j / 6 * 6 + 1 by omega, h1]; rfl
  · rw [show j = 0 + j / 6 * 6 + 2 by omega, h2]; rfl
  · rw [show j = 0 + j / 6 * 6 + 3 by omega, h3]; rfl
  · rw [show j = 0 + j / 6 * 6 + 4 by omega, h4]; rfl
  · rw [show j = 0 + j / 6 * 6 + 5 by omega, h5]; rfl

set_option maxHeartbeats 2000000 in
theorem markLines_any (b n cap : Nat) (hn : n ≤ 1048576) (k0 : Int) (h0 : 0 ≤ k0) (h1 : k0 ≤ 100000000) (w : World) (hM : Mk b (n * 2) w w) :
    Calls Try.prog 14 #[.slice (some ⟨b, 0, none⟩) n cap, .int .i64 k0] w fun e w' => e = .returned (.int .i64 (k0 + (n : Int) * 2)) ∧ Mk b (n * 2) w w' := by
  have H0 : Hid (Mk b (n * 2) w w) := hM
  clear hM
  go_enter Try.func14, Try.ntmps14
  go_wp2
  go_loopw [1, 5] (fun k i wr => ∃ j : Nat, j ≤ n ∧ i = .int .i64 (j : Int) ∧ k = .int .i64 (k0 + (j : Int) * 2) ∧ Mk b (n * 2) w wr) (fun _ i _ => n - (intOf i).toNat)
  case atStart => exact ⟨0, Nat.zero_le _, rfl, by simp, H0.out⟩
  case round =>
    obtain ⟨j, hj, rfl, rfl, hm⟩ := hrel
    have HM : Hid (Mk b (n * 2) w wr) := hm
    clear hm
    by_cases hlt : j < n
    · have hlt' : (j : Int) < (n : Int) := by omega
      obtain ⟨v0, hv0, hf0⟩ := HM.out.at (j * 2) (by omega)
      obtain ⟨v1, hv1, hf1⟩ := HM.out.at (j * 2 + 1) (by omega)
      go_wp2
      exact ⟨⟨j + 1, by omega, by go_num, by go_num, (HM.out.set _ _).set _ _⟩, by simp [intOf]; omega⟩
    · obtain rfl : j = n := by omega
      go_wp2
      go_ret
      exact ⟨rfl, HM.out⟩

set_option maxHeartbeats 2000000 in
theorem markRows_any (b n cap : Nat) (hn : n ≤ 1048576) (w : World) (hM : Mk b (n * 6) w w) :
    Calls Try.prog 13 #[.slice (some ⟨b, 0, none⟩) n cap, .int .i64 1] w fun e w' => e = .returned (.int .i64 (1 + (n : Int) * 6)) ∧ Mk b (n * 6) w w' := by
  have H0 : Hid (Mk b (n * 6) w w) := hM
  clear hM
  go_enter Try.func13, Try.ntmps13
  go_wp2
  go_loopw [1, 5] (fun k i wr => ∃ j : Nat, j ≤ n ∧ i = .int .i64 (j : Int) ∧ k = .int .i64 (1 + (j : Int) * 6) ∧ Mk b (n * 6) w wr) (fun _ i _ => n - (intOf i).toNat)
  case atStart => exact ⟨0, Nat.zero_le _, rfl, by simp, H0.out⟩
  case round =>
    obtain ⟨j, hj, rfl, rfl, hm⟩ := hrel
    have HM : Hid (Mk b (n * 6) w wr) := hm
    clear hm
    by_cases hlt : j < n
    · have hlt' : (j : Int) < (n : Int) := by omega
      have t1 := fun w => markText_any (1 + j * 6 + 1) (by omega) (by omega) w
      have e1 : ((1 + j * 6 + 1 : Nat) : Int) = 1 + (j : Int) * 6 + 1 := by omega
      rw [e1] at t1
      clear e1
      generalize mkS (1 + j * 6 + 1) = s1 at *
      obtain ⟨v0, hv0, hf0⟩ := HM.out.at (j * 6) (by omega)
      go_wp2_with (go_at_call 39; refine (t1 _).mono ?_; rintro e w2 ⟨rfl, hb2⟩; have HM2 : Hid (Mk b (n * 6) w w2) := (HM.out.set _ _).later hb2; obtain ⟨v1, hv1, hf1⟩ := HM2.out.at (j * 6 + 1) (by omega); obtain ⟨v2, hv2, hf2⟩ := HM2.out.at (j * 6 + 2) (by omega); obtain ⟨v3, hv3, hf3⟩ := HM2.out.at (j * 6 + 3) (by omega); obtain ⟨v4, hv4, hf4⟩ := HM2.out.at (j * 6 + 4) (by omega); obtain ⟨v5, hv5, hf5⟩ := HM2.out.at (j * 6 + 5) (by omega); clear hb2)
      exact ⟨⟨j + 1, by omega, by go_num, by go_num, ((((HM2.out.set _ _).set _ _).set _ _).set _ _).set _ _⟩, by simp [intOf]; omega⟩
    · obtain rfl : j = n := by omega
      go_wp2
      go_ret
      exact ⟨rfl, HM.out⟩
end Go.Proofs.Ytaledfdhiimhdak
