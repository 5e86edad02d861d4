/-
  The laws' own helpers on lists of tax sums, held as one flat list of numbers; a list of tax lines that came in, opened.
-/
import Derived.Test.YtaledfdhiimhdakBookG
namespace Go.Proofs.Ytaledfdhiimhdak
open Go.ChangeShapes Go.WideShapes Go.ChangeAt Go.RowKit Go.Deep
set_option linter.unusedVariables false

theorem eqSum_any (c g n t : Int) (w : World) :
    Calls Try.prog 36 #[.agg #[.int .i64 c, .int .i64 g, .int .i64 n, .int .i64 t], .agg #[.int .i64 c, .int .i64 g, .int .i64 n, .int .i64 t]] w fun e w' => e = .returned (.bool true) ∧ Below w.heap.size w w' := by
  have l1 : ∀ n : Nat, n < n + 1 + 1 := fun n => by omega
  have l2 : ∀ n : Nat, n < n + 2 := fun n => by omega
  go_enter Try.func36, Try.ntmps36
  go_wp2
  go_ret
  exact ⟨rfl, chain (below_alloc _ _) (below_alloc _ _)⟩
theorem keep8 {W w1 : World} {b0 b1 p0 p1 p2 p3 q0 q1 q2 q3 : Nat} {c0 c1 c2 c3 d0 d1 d2 d3 : Value} (hb : Below W.heap.size W w1) (h : W.cell? ⟨b0, p0, none⟩ = some c0 ∧ W.cell? ⟨b0, p1, none⟩ = some c1 ∧ W.cell? ⟨b0, p2, none⟩ = some c2 ∧ W.cell? ⟨b0, p3, none⟩ = some c3 ∧ W.cell? ⟨b1, q0, none⟩ = some d0 ∧ W.cell? ⟨b1, q1, none⟩ = some d1 ∧ W.cell? ⟨b1, q2, none⟩ = some d2 ∧ W.cell? ⟨b1, q3, none⟩ = some d3 ∧ b0 < W.heap.size ∧ b1 < W.heap.size) :
    w1.cell? ⟨b0, p0, none⟩ = some c0 ∧ w1.cell? ⟨b0, p1, none⟩ = some c1 ∧ w1.cell? ⟨b0, p2, none⟩ = some c2 ∧ w1.cell? ⟨b0, p3, none⟩ = some c3 ∧ w1.cell? ⟨b1, q0, none⟩ = some d0 ∧ w1.cell? ⟨b1, q1, none⟩ = some d1 ∧ w1.cell? ⟨b1, q2, none⟩ = some d2 ∧ w1.cell? ⟨b1, q3, none⟩ = some d3 ∧ b0 < w1.heap.size ∧ b1 < w1.heap.size := by
  obtain ⟨h0, h1, h2, h3, k0, k1, k2, k3, l0, l1⟩ := h
  exact ⟨(hb.cell (p := ⟨b0, p0, none⟩) l0).trans h0, (hb.cell (p := ⟨b0, p1, none⟩) l0).trans h1, (hb.cell (p := ⟨b0, p2, none⟩) l0).trans h2, (hb.cell (p := ⟨b0, p3, none⟩) l0).trans h3, (hb.cell (p := ⟨b1, q0, none⟩) l1).trans k0, (hb.cell (p := ⟨b1, q1, none⟩) l1).trans k1, (hb.cell (p := ⟨b1, q2, none⟩) l1).trans k2, (hb.cell (p := ⟨b1, q3, none⟩) l1).trans k3, Nat.lt_of_lt_of_le l0 hb.size, Nat.lt_of_lt_of_le l1 hb.size⟩
theorem four {w : World} {b off : Nat} {L : List Int} {n k : Nat} (h : IntsAt w b off L) (hl : L.length = n * 4) (hk : k < n) : w.cell? ⟨b, off + k * 4, none⟩ = some (.int .i64 (L.getD (k * 4) 0)) ∧ w.cell? ⟨b, off + k * 4 + 1, none⟩ = some (.int .i64 (L.getD (k * 4 + 1) 0)) ∧ w.cell? ⟨b, off + k * 4 + 2, none⟩ = some (.int .i64 (L.getD (k * 4 + 2) 0)) ∧ w.cell? ⟨b, off + k * 4 + 3, none⟩ = some (.int .i64 (L.getD (k * 4 + 3) 0)) :=
  ⟨h (k * 4) (by omega), h (k * 4 + 1) (by omega), h (k * 4 + 2) (by omega), h (k * 4 + 3) (by omega)⟩

set_option maxHeartbeats 2000000 in
theorem eqSums_any (a b : Option Addr) (ca cb : Nat) (L : List Int) (n : Nat) (hl : L.length = n * 4) (hn : n ≤ 1048576) (w : World) (ra : Reads w.heap.size w a L) (rb : Reads w.heap.size w b L) :
    Calls Try.prog 10 #[.slice a n ca, .slice b n cb] w fun e w' => e = .returned (.bool true) ∧ Below w.heap.size w w' := by
  have HA : Hid (Reads w.heap.size w a L) := ra
  have HBb : Hid (Reads w.heap.size w b L) := rb
  clear ra rb
  go_enter Try.func10, Try.ntmps10
  go_wp2
  go_loopw [5] (fun i wr => ∃ k : Nat, k ≤ n ∧ i = .int .i64 (k : Int) ∧ Below w.heap.size w wr) (fun i _ => n - (intOf i).toNat)
  case atStart => exact ⟨0, Nat.zero_le _, rfl, Below.refl _ _⟩
  case round =>
    obtain ⟨k, hk, rfl, hb⟩ := hrel
    have HB : Hid (Below w.heap.size w wr) := hb
    clear hb
    by_cases hlt : k < n
    · have hlt' : (k : Int) < (n : Int) := by omega
      rcases HA.out with h | ⟨b0, o0, ha, hB0, ia⟩
      · rw [h] at hl; simp at hl; omega
      rcases HBb.out with h | ⟨b1, o1, hbb, hB1, ib⟩
      · rw [h] at hl; simp at hl; omega
      obtain ⟨c0, c1, c2, c3⟩ := four (ia.below HB.out hB0) hl hlt
      obtain ⟨d0, d1, d2, d3⟩ := four (ib.below HB.out hB1) hl hlt
      have lt0 : b0 < wr.heap.size := Nat.lt_of_lt_of_le hB0 HB.out.size
      have lt1 : b1 < wr.heap.size := Nat.lt_of_lt_of_le hB1 HB.out.size
      rw [ha, hbb]
      clear ia ib
      generalize L.getD (k * 4) 0 = x0 at *
      generalize L.getD (k * 4 + 1) 0 = x1 at *
      generalize L.getD (k * 4 + 2) 0 = x2 at *
      generalize L.getD (k * 4 + 3) 0 = x3 at *
      go_wp2
      go_region_held3 (fun W => W.cell? ⟨b0, o0 + k * 4, none⟩ = some (.int .i64 x0) ∧ W.cell? ⟨b0, o0 + k * 4 + 1, none⟩ = some (.int .i64 x1) ∧ W.cell? ⟨b0, o0 + k * 4 + 2, none⟩ = some (.int .i64 x2) ∧ W.cell? ⟨b0, o0 + k * 4 + 3, none⟩ = some (.int .i64 x3) ∧ W.cell? ⟨b1, o1 + k * 4, none⟩ = some (.int .i64 x0) ∧ W.cell? ⟨b1, o1 + k * 4 + 1, none⟩ = some (.int .i64 x1) ∧ W.cell? ⟨b1, o1 + k * 4 + 2, none⟩ = some (.int .i64 x2) ∧ W.cell? ⟨b1, o1 + k * 4 + 3, none⟩ = some (.int .i64 x3) ∧ b0 < W.heap.size ∧ b1 < W.heap.size) (first | exact ⟨c0, c1, c2, c3, d0, d1, d2, d3, lt0, lt1⟩ | exact keep8 (by assumption) (by assumption)) (first | (go_at_call 36; refine (eqSum_any _ _ _ _ _).mono ?_; rintro e w2 ⟨rfl, hb2⟩))
      have HB2 : Hid (Below w.heap.size w w2) := chain HB.out.drew hb2
      go_wp2
      go_roundw
      case rel => exact ⟨k + 1, by omega, by go_num, HB2.out⟩
      case measure => simp [intOf]; omega
    · go_wp2
      go_ret
      exact ⟨rfl, HB.out⟩

/-- The first j * 4 cells of block b bear their marks. -/
def Marked (w : World) (b m : Nat) (k0 : Int) : Prop := ∀ i, i < m → w.cell? ⟨b, i, none⟩ = some (.int .i64 (k0 + (i : Int)))
theorem Marked.set {w : World} {b m : Nat} {k0 : Int} (h : Marked w b m k0) {v : Value} (hv : w.cell? ⟨b, m, none⟩ = some v) : Marked (w.setCell ⟨b, m, none⟩ (.int .i64 (k0 + (m : Int)))) b (m + 1) k0 := fun i hi => by
  by_cases e : i = m
  · rw [e]; exact World.cell?_setCell_same _ _ _ hv
  · rw [World.cell?_setCell_other _ _ _ _ (fun h => e (by first | (simp at h; omega) | (simp at h; done) | (cases h; rfl)))]; exact h i (by omega)
theorem isSome_set {w : World} {b n o : Nat} {v : Value} (h : ∀ i, i < n → (w.cell? ⟨b, i, none⟩).isSome = true) : ∀ i, i < n → ((w.setCell ⟨b, o, none⟩ v).cell? ⟨b, i, none⟩).isSome = true := fun i hi => by
  obtain ⟨u, hu⟩ := Option.isSome_iff_exists.mp (h i hi)
  by_cases e : i = o
  · subst e; rw [World.cell?_setCell_same _ _ _ hu]; rfl
  · rw [World.cell?_setCell_other _ _ _ _ (fun h => e (by first | (simp at h; omega) | (simp at h; done) | (cases h; rfl)))]; rw [hu]; rfl
theorem some_at {w : World} {b n : Nat} (h : ∀ i, i < n → (w.cell? ⟨b, i, none⟩).isSome = true) (i : Nat) (hi : i < n) : ∃ v, w.cell? ⟨b, i, none⟩ = some v := Option.isSome_iff_exists.mp (h i hi)
/-- Four marks at once. -/
theorem mark_four {w wr : World} {b n j : Nat} {k0 : Int} (hj : j < n) (ho : Others b w wr) (hs : ∀ i, i < n * 4 → (wr.cell? ⟨b, i, none⟩).isSome = true) (hm : Marked wr b (j * 4) k0) :
    Others b w ((((wr.setCell ⟨b, j * 4, none⟩ (.int .i64 (k0 + (j : Int) * 4))).setCell ⟨b, j * 4 + 1, none⟩ (.int .i64 (k0 + (j : Int) * 4 + 1))).setCell ⟨b, j * 4 + 2, none⟩ (.int .i64 (k0 + (j : Int) * 4 + 1 + 1))).setCell ⟨b, j * 4 + 3, none⟩ (.int .i64 (k0 + (j : Int) * 4 + 1 + 1 + 1))) ∧
    (∀ i, i < n * 4 → (((((wr.setCell ⟨b, j * 4, none⟩ (.int .i64 (k0 + (j : Int) * 4))).setCell ⟨b, j * 4 + 1, none⟩ (.int .i64 (k0 + (j : Int) * 4 + 1))).setCell ⟨b, j * 4 + 2, none⟩ (.int .i64 (k0 + (j : Int) * 4 + 1 + 1))).setCell ⟨b, j * 4 + 3, none⟩ (.int .i64 (k0 + (j : Int) * 4 + 1 + 1 + 1))).cell? ⟨b, i, none⟩).isSome = true) ∧
    Marked ((((wr.setCell ⟨b, j * 4, none⟩ (.int .i64 (k0 + (j : Int) * 4))).setCell ⟨b, j * 4 + 1, none⟩ (.int .i64 (k0 + (j : Int) * 4 + 1))).setCell ⟨b, j * 4 + 2, none⟩ (.int .i64 (k0 + (j : Int) * 4 + 1 + 1))).setCell ⟨b, j * 4 + 3, none⟩ (.int .i64 (k0 + (j : Int) * 4 + 1 + 1 + 1))) b ((j + 1) * 4) k0 := by
  refine ⟨(((ho.set _ _).set _ _).set _ _).set _ _, isSome_set (isSome_set (isSome_set (isSome_set hs))), ?_⟩
  have e0 : k0 + (j : Int) * 4 = k0 + ((j * 4 : Nat) : Int) := by omega
  have e1 : k0 + (j : Int) * 4 + 1 = k0 + ((j * 4 + 1 : Nat) : Int) := by omega
  have e2 : k0 + (j : Int) * 4 + 1 + 1 = k0 + ((j * 4 + 2 : Nat) : Int) := by omega
  have e3 : k0 + (j : Int) * 4 + 1 + 1 + 1 = k0 + ((j * 4 + 3 : Nat) : Int) := by omega
  rw [e3, e2, e1, e0, show (j + 1) * 4 = j * 4 + 3 + 1 by omega]
  obtain ⟨v0, hv0⟩ := some_at hs (j * 4) (by omega)
  have m1 := hm.set hv0
  obtain ⟨v1, hv1⟩ := some_at (isSome_set (o := j * 4) (v := .int .i64 (k0 + ((j * 4 : Nat) : Int))) hs) (j * 4 + 1) (by omega)
  have m2 := m1.set hv1
  obtain ⟨v2, hv2⟩ := some_at (isSome_set (o := j * 4 + 1) (v := .int .i64 (k0 + ((j * 4 + 1 : Nat) : Int))) (isSome_set (o := j * 4) (v := .int .i64 (k0 + ((j * 4 : Nat) : Int))) hs)) (j * 4 + 2) (by omega)
  have m3 := m2.set hv2
  obtain ⟨v3, hv3⟩ := some_at (isSome_set (o := j * 4 + 2) (v := .int .i64 (k0 + ((j * 4 + 2 : Nat) : Int))) (isSome_set (o := j * 4 + 1) (v := .int .i64 (k0 + ((j * 4 + 1 : Nat) : Int))) (isSome_set (o := j * 4) (v := .int .i64 (k0 + ((j * 4 : Nat) : Int))) hs))) (j * 4 + 3) (by omega)
  exact m3.set hv3

set_option maxHeartbeats 2000000 in
theorem markSums_any (b n cap : Nat) (hn : n ≤ 1048576) (k0 : Int) (h0 : 0 ≤ k0) (h1 : k0 ≤ 100000000) (w : World) (hc : ∀ i, i < n * 4 → (w.cell? ⟨b, i, none⟩).isSome = true) (hf : ∀ i, i < n * 4 → w.frozen? ⟨b, i, none⟩ = false) :
    Calls Try.prog 15 #[.slice (some ⟨b, 0, none⟩) n cap, .int .i64 k0] w fun e w' => e = .returned (.int .i64 (k0 + (n : Int) * 4)) ∧ Others b w w' ∧ Marked w' b (n * 4) k0 := by
  have HC : Hid (∀ i, i < n * 4 → (w.cell? ⟨b, i, none⟩).isSome = true) := hc
  have HF : Hid (∀ i, i < n * 4 → w.frozen? ⟨b, i, none⟩ = false) := hf
  clear hc hf
  go_enter Try.func15, Try.ntmps15
  go_wp2
  go_loopw [1, 5] (fun k i wr => ∃ j : Nat, j ≤ n ∧ i = .int .i64 (j : Int) ∧ k = .int .i64 (k0 + (j : Int) * 4) ∧ Others b w wr ∧ (∀ i, i < n * 4 → (wr.cell? ⟨b, i, none⟩).isSome = true) ∧ Marked wr b (j * 4) k0) (fun _ i _ => n - (intOf i).toNat)
  case atStart => exact ⟨0, Nat.zero_le _, rfl, by simp, Others.refl _ _, HC.out, fun i hi => by omega⟩
  case round =>
    obtain ⟨j, hj, rfl, rfl, ho, hs, hm⟩ := hrel
    have HO : Hid (Others b w wr) := ho
    have HS : Hid (∀ i, i < n * 4 → (wr.cell? ⟨b, i, none⟩).isSome = true) := hs
    have HM : Hid (Marked wr b (j * 4) k0) := hm
    clear ho hs hm
    by_cases hlt : j < n
    · have hlt' : (j : Int) < (n : Int) := by omega
      obtain ⟨v0, hv0⟩ := some_at HS.out (j * 4) (by omega)
      obtain ⟨v1, hv1⟩ := some_at HS.out (j * 4 + 1) (by omega)
      obtain ⟨v2, hv2⟩ := some_at HS.out (j * 4 + 2) (by omega)
      obtain ⟨v3, hv3⟩ := some_at HS.out (j * 4 + 3) (by omega)
      have f0 : wr.frozen? ⟨b, j * 4, none⟩ = false := (HO.out.2.1 b _).trans (HF.out _ (by omega))
      have f1 : wr.frozen? ⟨b, j * 4 + 1, none⟩ = false := (HO.out.2.1 b _).trans (HF.out _ (by omega))
      have f2 : wr.frozen? ⟨b, j * 4 + 2, none⟩ = false := (HO.out.2.1 b _).trans (HF.out _ (by omega))
      have f3 : wr.frozen? ⟨b, j * 4 + 3, none⟩ = false := (HO.out.2.1 b _).trans (HF.out _ (by omega))
      obtain ⟨n1, n2, n3⟩ := mark_four hlt HO.out HS.out HM.out
      have N1 : Hid (_) := n1
      have N2 : Hid (∀ i, _) := n2
      have N3 : Hid (_) := n3
      clear n1 n2 n3
      go_wp2
      exact ⟨⟨j + 1, by omega, by go_num, by go_num, N1.out, N2.out, N3.out⟩, by simp [intOf]; omega⟩
    · obtain rfl : j = n := by omega
      go_wp2
      go_ret
      exact ⟨rfl, HO.out, HM.out⟩
theorem markSums_none (a : Option Addr) (cap : Nat) (k0 : Int) (w : World) :
    Calls Try.prog 15 #[.slice a 0 cap, .int .i64 k0] w fun e w' => e = .returned (.int .i64 k0) ∧ w' = w := by
  go_enter Try.func15, Try.ntmps15
  go_wp2
  go_loop [1, 5] (fun k i => i = .int .i64 0 ∧ k = .int .i64 k0) (fun _ i => 0)
  case atStart => exact ⟨rfl, rfl⟩
  case round =>
    obtain ⟨rfl, rfl⟩ := hrel
    go_wp2
    go_ret
    exact ⟨rfl, rfl⟩
theorem heldSums_none (a : Option Addr) (cap : Nat) (k0 : Int) (w : World) :
    Calls Try.prog 16 #[.slice a 0 cap, .int .i64 k0] w fun e w' => e = .returned (.int .i64 k0) ∧ w' = w := by
  go_enter Try.func16, Try.ntmps16
  go_wp2
  go_loop [1, 5] (fun k i => i = .int .i64 0 ∧ k = .int .i64 k0) (fun _ i => 0)
  case atStart => exact ⟨rfl, rfl⟩
  case round =>
    obtain ⟨rfl, rfl⟩ := hrel
    go_wp2
    go_ret
    exact ⟨rfl, rfl⟩
set_option maxHeartbeats 2000000 in
theorem heldSums_any (b n cap : Nat) (hn : n ≤ 1048576) (k0 : Int) (h0 : 0 ≤ k0) (h1 : k0 ≤ 100000000) (w : World) (hm : Marked w b (n * 4) k0) :
    Calls Try.prog 16 #[.slice (some ⟨b, 0, none⟩) n cap, .int .i64 k0] w fun e w' => e = .returned (.int .i64 (k0 + (n : Int) * 4)) ∧ w' = w := by
  have HM : Hid (Marked w b (n * 4) k0) := hm
  clear hm
  go_enter Try.func16, Try.ntmps16
  go_wp2
  go_loop [1, 5] (fun k i => ∃ j : Nat, j ≤ n ∧ i = .int .i64 (j : Int) ∧ k = .int .i64 (k0 + (j : Int) * 4)) (fun _ i => n - (intOf i).toNat)
  case atStart => exact ⟨0, Nat.zero_le _, rfl, by simp⟩
  case round =>
    obtain ⟨j, hj, rfl, rfl⟩ := hrel
    by_cases hlt : j < n
    · have hlt' : (j : Int) < (n : Int) := by omega
      have c0 : w.cell? ⟨b, j * 4, none⟩ = some (.int .i64 (k0 + (j : Int) * 4)) := by rw [HM.out (j * 4) (by omega)]; congr 2 <;> omega
      have c1 : w.cell? ⟨b, j * 4 + 1, none⟩ = some (.int .i64 (k0 + (j : Int) * 4 + 1)) := by rw [HM.out (j * 4 + 1) (by omega)]; congr 2 <;> omega
      have c2 : w.cell? ⟨b, j * 4 + 2, none⟩ = some (.int .i64 (k0 + (j : Int) * 4 + 1 + 1)) := by rw [HM.out (j * 4 + 2) (by omega)]; congr 2 <;> omega
      have c3 : w.cell? ⟨b, j * 4 + 3, none⟩ = some (.int .i64 (k0 + (j : Int) * 4 + 1 + 1 + 1)) := by rw [HM.out (j * 4 + 3) (by omega)]; congr 2 <;> omega
      go_wp2
      go_round
      case rel => exact ⟨j + 1, by omega, by go_num, by go_num⟩
      case measure => simp [intOf]; omega
    · obtain rfl : j = n := by omega
      go_wp2
      go_ret
      exact ⟨rfl, rfl⟩
theorem ints_of_marked {w : World} {b n : Nat} {k0 : Int} (h : Marked w b n k0) : IntsAt w b 0 (marks k0 n) := fun i hi => by
  rw [marks_length] at hi
  rw [marks_getD k0 n i hi, Nat.zero_add]
  exact h i hi
theorem markSums_own (B : Nat) (g : Option Addr) (cap : Nat) (L : List Int) (n : Nat) (hl : L.length = n * 4) (hn : n ≤ 1048576) (k0 : Int) (h0 : 0 ≤ k0) (h1 : k0 ≤ 100000000) (w : World) (h : Own2 B w g L) :
    Calls Try.prog 15 #[.slice g n cap, .int .i64 k0] w fun e w' => e = .returned (.int .i64 (k0 + (n : Int) * 4)) ∧ Below B w w' ∧ w'.heap.size = w.heap.size ∧ Own2 B w' g (marks k0 (n * 4)) := by
  rcases h with h | ⟨b, hg, hB, hlt, hi, hf⟩
  · obtain rfl : n = 0 := by rw [h] at hl; simp at hl; omega
    refine (markSums_none g cap k0 w).mono ?_
    rintro e w' ⟨rfl, rfl⟩
    exact ⟨ret_int (by simp), Below.refl _ _, rfl, .inl rfl⟩
  · subst hg
    refine (markSums_any b n cap hn k0 h0 h1 w (fun i h => by have := hi i (by omega); rw [Nat.zero_add] at this; rw [this]; rfl) (fun i h => by have := hf i (by omega); rwa [Nat.zero_add] at this)).mono ?_
    rintro e w' ⟨rfl, ho, hm⟩
    exact ⟨rfl, ho.2.2.2 B hB, ho.2.2.1, .inr ⟨b, rfl, hB, by rw [ho.2.2.1]; exact hlt, ints_of_marked hm, by rw [marks_length]; rw [hl] at hf; exact ho.free hf⟩⟩
theorem heldSums_own (B : Nat) (g : Option Addr) (cap n : Nat) (hn : n ≤ 1048576) (k0 : Int) (h0 : 0 ≤ k0) (h1 : k0 ≤ 100000000) (w : World) (h : Own2 B w g (marks k0 (n * 4))) :
    Calls Try.prog 16 #[.slice g n cap, .int .i64 k0] w fun e w' => e = .returned (.int .i64 (k0 + (n : Int) * 4)) ∧ w' = w := by
  rcases h with h | ⟨b, hg, hB, hlt, hi, hf⟩
  · have hz : n * 4 = 0 := by rw [← marks_length k0 (n * 4), h]; rfl
    obtain rfl : n = 0 := by omega
    refine (heldSums_none g cap k0 w).mono ?_
    rintro e w' ⟨rfl, rfl⟩
    exact ⟨ret_int (by simp), rfl⟩
  · subst hg
    exact heldSums_any b n cap hn k0 h0 h1 w (fun i hk => by
      have := hi i (by rw [marks_length]; exact hk)
      rwa [marks_getD k0 (n * 4) i hk, Nat.zero_add] at this)

/-! ### A list of lines that came in -/
def IsTaxLines (w : World) (a : Option Addr) (len cap : Nat) (ls : List TL) : Prop := ls.length = len ∧ len ≤ cap ∧ cap ≤ maxLen ∧ ReadsL w.heap.size w a ls
theorem openTaxLine {H : Type} {enc : TypeId × Value → H} {w : World} {base : Nat} {spare : Nat → Bool} {held : Bool} {fuel : Nat} {cs : List Value} {x : DataW H × List MemPlace} (h : DataW.trod enc Try.prog w base spare held fuel 63 cs = some x) :
    ∃ r : TL, cs = [.int .i64 r.cl, .int .i64 r.gr] := by
  obtain ⟨xs, n, _, _, hl, hlen, hf⟩ := DataW.trod_struct Try.underlying63 h
  have hc : Try.prog.cellsOf 63 = 2 := by kernel_rfl
  have hci : Try.prog.cellsOf 3 = 1 := by kernel_rfl
  rw [hc] at hl
  obtain ⟨v0, v1, rfl⟩ : ∃ a b, cs = [a, b] := by
    rcases cs with _ | ⟨a, _ | ⟨b, _ | ⟨c, r⟩⟩⟩ <;> simp at hl
    exact ⟨a, b, rfl⟩
  have hlen' : xs.length = 2 := hlen
  obtain ⟨y0, y1, rfl⟩ : ∃ a b, xs = [a, b] := by
    rcases xs with _ | ⟨a, _ | ⟨b, _ | ⟨c, r⟩⟩⟩ <;> simp at hlen'
    exact ⟨a, b, rfl⟩
  clear hlen hlen' h hl
  have h0 := hf 0 _ rfl
  have h1 := hf 1 _ rfl
  clear hf
  simp [hci] at h0 h1
  obtain ⟨c0, e0, _, _⟩ := DataW.trod_int Try.underlying3 h0
  obtain ⟨c1, e1, _, _⟩ := DataW.trod_int Try.underlying3 h1
  simp at e0 e1
  subst e0 e1
  exact ⟨⟨c0, c1⟩, rfl⟩
theorem openTaxLines {H : Type} {enc : TypeId × Value → H} {w : World} {spare : Nat → Bool} {held : Bool} {fuel : Nat} {a : Option Addr} {len cap : Nat} {x : DataW H × List MemPlace} (h : DataW.trod enc Try.prog w 0 spare held fuel 23 [.slice a len cap] = some x) :
    ∃ ls, IsTaxLines w a len cap ls := by
  haveI : Inhabited TL := ⟨tl0⟩
  rcases open_slice Try.underlying23 h with ⟨hcs, _⟩ | ⟨ad, l, c, m, n, D, Pl, hcs, _, hl, hm, hmm, _, hx⟩
  · simp at hcs
    obtain ⟨rfl, rfl, rfl⟩ := hcs
    exact ⟨[], rfl, Nat.le_refl _, by unfold maxLen; omega, .inl rfl⟩
  · simp at hcs
    obtain ⟨rfl, rfl, rfl⟩ := hcs
    have hlm : len ≤ m := by rw [hmm]; split <;> omega
    have hc : Try.prog.cellsOf 63 = 2 := by kernel_rfl
    rw [hc] at hx
    obtain ⟨f, hf⟩ := choose_lt (α := TL) (n := len) (p := fun i r => w.cell? ((ad.add (i * 2)).add 0) = some (.int .i64 r.cl) ∧ w.cell? ((ad.add (i * 2)).add 1) = some (.int .i64 r.gr)) (fun i hi => by
      obtain ⟨cs', h1, h2⟩ := hx i (by omega)
      obtain ⟨r, rfl⟩ := openTaxLine h2
      obtain ⟨_, _, hcell⟩ := World.cells?_some h1
      exact ⟨r, hcell 0 (by omega), hcell 1 (by omega)⟩)
    have hg : ∀ i, i < len → ((List.range len).map f).getD i tl0 = f i := fun i hi => by simp [List.getD_eq_getElem?_getD, hi]
    refine ⟨(List.range len).map f, by simp, hl, hm, ?_⟩
    by_cases h0 : len = 0
    · exact .inl (by subst h0; rfl)
    · obtain ⟨b, off, spot⟩ := ad
      have hspot : spot = none := by simpa [Addr.add] using World.cell?_spot (hf 0 (by omega)).1
      subst hspot
      refine .inr ⟨b, off, rfl, ?_, fun i hi => ?_⟩
      · have := (hf 0 (by omega)).1
        rw [Go.WideShapes.add_plain, Go.WideShapes.add_plain] at this
        exact World.block_lt_of_cell? _ _ this
      · have hi' : i < len := by simpa using hi
        obtain ⟨q0, q1⟩ := hf i hi'
        rw [Go.WideShapes.add_plain, Go.WideShapes.add_plain] at q0 q1
        rw [hg i hi']
        exact ⟨q0, q1⟩
end Go.Proofs.Ytaledfdhiimhdak
