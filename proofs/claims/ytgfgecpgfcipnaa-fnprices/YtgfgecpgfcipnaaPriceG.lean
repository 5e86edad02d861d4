/-
  The program's closures that tell which of two rows counts, and whether a row holds.
-/
import Derived.Test.YtgfgecpgfcipnaaPriceD
import Derived.Test.YtgfgecpgfcipnaaPrF
import Derived.Deep.RegionHeld3
namespace Go.Proofs.Ytgfgecpgfcipnaa
open Go.ChangeShapes Go.WideShapes Go.ChangeAt Go.RowKit
set_option linter.unusedVariables false

def cmpI (x y : Int) : Int := if x < y then -1 else if y < x then 1 else 0
theorem isNaN_any (x : Int) (w : World) : Calls Try.prog 63 #[.int .i64 x] w fun e w' => e = .returned (.bool false) ∧ w' = w := by
  go_enter Try.func63, Try.ntmps63
  go_wp2
  go_ret
  exact ⟨rfl, rfl⟩
theorem compare_any (x y : Int) (w : World) : Calls Try.prog 50 #[.int .i64 x, .int .i64 y] w fun e w' => e = .returned (.int .i64 (cmpI x y)) ∧ w' = w := by
  unfold cmpI
  rcases (by omega : x < y ∨ (y < x ∧ ¬ x < y) ∨ (¬ x < y ∧ ¬ y < x)) with h | ⟨h, h'⟩ | ⟨h, h'⟩
  · rw [if_pos h]
    go_enter Try.func50, Try.ntmps50
    go_wp2_with (go_at_call 63; refine (isNaN_any _ _).mono ?_; rintro e w1 ⟨rfl, rfl⟩)
    go_ret
    exact ⟨rfl, rfl⟩
  · rw [if_neg h', if_pos h]
    go_enter Try.func50, Try.ntmps50
    go_wp2_with (go_at_call 63; refine (isNaN_any _ _).mono ?_; rintro e w1 ⟨rfl, rfl⟩)
    go_ret
    exact ⟨rfl, rfl⟩
  · rw [if_neg h, if_neg h']
    go_enter Try.func50, Try.ntmps50
    go_wp2_with (go_at_call 63; refine (isNaN_any _ _).mono ?_; rintro e w1 ⟨rfl, rfl⟩)
    go_ret
    exact ⟨rfl, rfl⟩

/-- What the three orders look at. -/
def prKey1 (r : RPr) : Int := r.lv
def prKey2 (r : RPr) : Int := if r.zn.toList.isEmpty = true then 0 else 1
def prKey3 (r : RPr) : Int := r.fr
theorem size_empty (s : ByteArray) : s.toList.isEmpty = decide (s.size = 0) := by
  have h : s.toList.length = s.size := by rw [ByteArray.toList_eq]; exact Array.length_toList
  cases hl : s.toList with
  | nil => rw [hl] at h; exact (decide_eq_true (by simpa using h.symm)).symm
  | cons x l => rw [hl] at h; exact (decide_eq_false (by simp at h; omega)).symm
theorem key1_any (r0 r1 : ByteArray) (r2 r3 r4 r5 : Int) (w : World) :
    Calls Try.prog 40 #[.agg #[.string r0, .string r1, .int .i64 r2, .int .i64 r3, .int .i64 r4, .int .i64 r5]] w fun e w' => e = .returned (.int .i64 (prKey1 ⟨r0, r1, r2, r3, r4, r5⟩)) ∧ Below w.heap.size w w' := by
  go_enter Try.func40, Try.ntmps40
  go_wp2
  go_ret
  exact ⟨rfl, below_alloc _ _⟩
theorem key2_any (r0 r1 : ByteArray) (r2 r3 r4 r5 : Int) (w : World) :
    Calls Try.prog 41 #[.agg #[.string r0, .string r1, .int .i64 r2, .int .i64 r3, .int .i64 r4, .int .i64 r5]] w fun e w' => e = .returned (.int .i64 (prKey2 ⟨r0, r1, r2, r3, r4, r5⟩)) ∧ Below w.heap.size w w' := by
  have e : prKey2 ⟨r0, r1, r2, r3, r4, r5⟩ = min (r1.size : Int) 1 := by
    unfold prKey2; dsimp only; rw [size_empty]; simp only [decide_eq_true_eq]; split <;> omega
  rw [e]
  go_enter Try.func41, Try.ntmps41
  go_wp2
  all_goals
    go_ret
    exact ⟨ret_int (by first | rfl | omega | (split <;> omega)), below_alloc _ _⟩
theorem key3_any (r0 r1 : ByteArray) (r2 r3 r4 r5 : Int) (w : World) :
    Calls Try.prog 42 #[.agg #[.string r0, .string r1, .int .i64 r2, .int .i64 r3, .int .i64 r4, .int .i64 r5]] w fun e w' => e = .returned (.int .i64 (prKey3 ⟨r0, r1, r2, r3, r4, r5⟩)) ∧ Below w.heap.size w w' := by
  go_enter Try.func42, Try.ntmps42
  go_wp2
  go_ret
  exact ⟨rfl, below_alloc _ _⟩

theorem keepOB {W w1 : World} {b0 b1 q : Nat} {f c0 c1 c2 c3 c4 c5 d0 d1 d2 d3 d4 d5 : Value} (hb : Below W.heap.size W w1) (h : W.cell? ⟨q, 0, none⟩ = some f ∧ W.cell? ⟨b0, 0, none⟩ = some c0 ∧ W.cell? ⟨b0, 1, none⟩ = some c1 ∧ W.cell? ⟨b0, 2, none⟩ = some c2 ∧ W.cell? ⟨b0, 3, none⟩ = some c3 ∧ W.cell? ⟨b0, 4, none⟩ = some c4 ∧ W.cell? ⟨b0, 5, none⟩ = some c5 ∧ W.cell? ⟨b1, 0, none⟩ = some d0 ∧ W.cell? ⟨b1, 1, none⟩ = some d1 ∧ W.cell? ⟨b1, 2, none⟩ = some d2 ∧ W.cell? ⟨b1, 3, none⟩ = some d3 ∧ W.cell? ⟨b1, 4, none⟩ = some d4 ∧ W.cell? ⟨b1, 5, none⟩ = some d5 ∧ q < W.heap.size ∧ b0 < W.heap.size ∧ b1 < W.heap.size) :
    w1.cell? ⟨q, 0, none⟩ = some f ∧ w1.cell? ⟨b0, 0, none⟩ = some c0 ∧ w1.cell? ⟨b0, 1, none⟩ = some c1 ∧ w1.cell? ⟨b0, 2, none⟩ = some c2 ∧ w1.cell? ⟨b0, 3, none⟩ = some c3 ∧ w1.cell? ⟨b0, 4, none⟩ = some c4 ∧ w1.cell? ⟨b0, 5, none⟩ = some c5 ∧ w1.cell? ⟨b1, 0, none⟩ = some d0 ∧ w1.cell? ⟨b1, 1, none⟩ = some d1 ∧ w1.cell? ⟨b1, 2, none⟩ = some d2 ∧ w1.cell? ⟨b1, 3, none⟩ = some d3 ∧ w1.cell? ⟨b1, 4, none⟩ = some d4 ∧ w1.cell? ⟨b1, 5, none⟩ = some d5 ∧ q < w1.heap.size ∧ b0 < w1.heap.size ∧ b1 < w1.heap.size := by
  obtain ⟨hf, h0, h1, h2, h3, h4, h5, k0, k1, k2, k3, k4, k5, lq, l0, l1⟩ := h
  obtain ⟨hc, _, hz⟩ := bfacts hb
  exact ⟨(hc _ _ lq).trans hf, (hc _ _ l0).trans h0, (hc _ _ l0).trans h1, (hc _ _ l0).trans h2, (hc _ _ l0).trans h3, (hc _ _ l0).trans h4, (hc _ _ l0).trans h5, (hc _ _ l1).trans k0, (hc _ _ l1).trans k1, (hc _ _ l1).trans k2, (hc _ _ l1).trans k3, (hc _ _ l1).trans k4, (hc _ _ l1).trans k5, hz _ lq, hz _ l0, hz _ l1⟩

set_option maxHeartbeats 1000000 in
set_option maxRecDepth 8000 in
theorem order1_any (a0 a1 : ByteArray) (a2 a3 a4 a5 : Int) (r0 r1 : ByteArray) (r2 r3 r4 r5 : Int) (q : Nat) (w : World) (hq : w.cell? ⟨q, 0, none⟩ = some (.func (.func 40) #[] #[])) (hl : q < w.heap.size) :
    Calls Try.prog 49 #[.agg #[.string a0, .string a1, .int .i64 a2, .int .i64 a3, .int .i64 a4, .int .i64 a5], .agg #[.string r0, .string r1, .int .i64 r2, .int .i64 r3, .int .i64 r4, .int .i64 r5], .pointer (some ⟨q, 0, none⟩)] w fun e w' => e = .returned (.int .i64 (cmpI (prKey1 ⟨a0, a1, a2, a3, a4, a5⟩) (prKey1 ⟨r0, r1, r2, r3, r4, r5⟩))) ∧ Below w.heap.size w w' := by
  have ka := fun w => key1_any a0 a1 a2 a3 a4 a5 w
  have kr := fun w => key1_any r0 r1 r2 r3 r4 r5 w
  generalize prKey1 ⟨a0, a1, a2, a3, a4, a5⟩ = x at *
  generalize prKey1 ⟨r0, r1, r2, r3, r4, r5⟩ = y at *
  have l1 : ∀ n : Nat, n < n + 1 + 1 := fun n => by omega
  have l2 : ∀ n : Nat, n < n + 2 := fun n => by omega
  have HB0 : Hid (Below w.heap.size w ((w.alloc (Obj.cells #[.string a0, .string a1, .int .i64 a2, .int .i64 a3, .int .i64 a4, .int .i64 a5] 36)).alloc (Obj.cells #[.string r0, .string r1, .int .i64 r2, .int .i64 r3, .int .i64 r4, .int .i64 r5] 36))) := chain (below_alloc _ _) (below_alloc _ _)
  go_enter Try.func49, Try.ntmps49
  go_wp2
  have e0 : (w.alloc (Obj.cells #[.string a0, .string a1, .int .i64 a2, .int .i64 a3, .int .i64 a4, .int .i64 a5] 36)).heap.size = w.heap.size + 1 := by simp
  have pa := (prNew w a0 a1 a2 a3 a4 a5).below (below_alloc _ (Obj.cells #[.string r0, .string r1, .int .i64 r2, .int .i64 r3, .int .i64 r4, .int .i64 r5] 36)) (by simp)
  have pr := prNew (w.alloc (Obj.cells #[.string a0, .string a1, .int .i64 a2, .int .i64 a3, .int .i64 a4, .int .i64 a5] 36)) r0 r1 r2 r3 r4 r5
  rw [e0] at pr
  have hq2 := (HB0.out.cell (p := ⟨q, 0, none⟩) hl).trans hq
  have hl2 : q < ((w.alloc (Obj.cells #[.string a0, .string a1, .int .i64 a2, .int .i64 a3, .int .i64 a4, .int .i64 a5] 36)).alloc (Obj.cells #[.string r0, .string r1, .int .i64 r2, .int .i64 r3, .int .i64 r4, .int .i64 r5] 36)).heap.size := Nat.lt_of_lt_of_le hl HB0.out.size
  have la : w.heap.size < ((w.alloc (Obj.cells #[.string a0, .string a1, .int .i64 a2, .int .i64 a3, .int .i64 a4, .int .i64 a5] 36)).alloc (Obj.cells #[.string r0, .string r1, .int .i64 r2, .int .i64 r3, .int .i64 r4, .int .i64 r5] 36)).heap.size := by simp; omega
  have lr : w.heap.size + 1 < ((w.alloc (Obj.cells #[.string a0, .string a1, .int .i64 a2, .int .i64 a3, .int .i64 a4, .int .i64 a5] 36)).alloc (Obj.cells #[.string r0, .string r1, .int .i64 r2, .int .i64 r3, .int .i64 r4, .int .i64 r5] 36)).heap.size := by simp
  obtain ⟨c0, c1, c2, c3, c4, c5⟩ := pa
  obtain ⟨d0, d1, d2, d3, d4, d5⟩ := pr
  dsimp only at c0 c1 c2 c3 c4 c5 d0 d1 d2 d3 d4 d5
  go_region_held3 (fun W => W.cell? ⟨q, 0, none⟩ = some (.func (.func 40) #[] #[]) ∧ W.cell? ⟨w.heap.size, 0, none⟩ = some (.string a0) ∧ W.cell? ⟨w.heap.size, 1, none⟩ = some (.string a1) ∧ W.cell? ⟨w.heap.size, 2, none⟩ = some (.int .i64 a2) ∧ W.cell? ⟨w.heap.size, 3, none⟩ = some (.int .i64 a3) ∧ W.cell? ⟨w.heap.size, 4, none⟩ = some (.int .i64 a4) ∧ W.cell? ⟨w.heap.size, 5, none⟩ = some (.int .i64 a5) ∧ W.cell? ⟨w.heap.size + 1, 0, none⟩ = some (.string r0) ∧ W.cell? ⟨w.heap.size + 1, 1, none⟩ = some (.string r1) ∧ W.cell? ⟨w.heap.size + 1, 2, none⟩ = some (.int .i64 r2) ∧ W.cell? ⟨w.heap.size + 1, 3, none⟩ = some (.int .i64 r3) ∧ W.cell? ⟨w.heap.size + 1, 4, none⟩ = some (.int .i64 r4) ∧ W.cell? ⟨w.heap.size + 1, 5, none⟩ = some (.int .i64 r5) ∧ q < W.heap.size ∧ w.heap.size < W.heap.size ∧ w.heap.size + 1 < W.heap.size) (first | exact ⟨hq2, c0, c1, c2, c3, c4, c5, d0, d1, d2, d3, d4, d5, hl2, la, lr⟩ | exact keepOB (by assumption) (by assumption) | assumption)
    (first | (go_at_call 40; refine (ka _).mono ?_; rintro e w2 ⟨rfl, hb2⟩) | (go_at_call 40; refine (kr _).mono ?_; rintro e w3 ⟨rfl, hb3⟩) | (go_at_call 50; refine (compare_any _ _ _).mono ?_; rintro e w4 ⟨rfl, rfl⟩))
  all_goals
    go_wp2
    go_ret
    first
    | exact ⟨rfl, chain (chain HB0.out (chain (below_drew _) hb2)) hb3⟩
    | exact ⟨rfl, chain (chain HB0.out (chain (below_drew _) hb3)) hb2⟩

set_option maxHeartbeats 1000000 in
set_option maxRecDepth 8000 in
theorem order2_any (a0 a1 : ByteArray) (a2 a3 a4 a5 : Int) (r0 r1 : ByteArray) (r2 r3 r4 r5 : Int) (q : Nat) (w : World) (hq : w.cell? ⟨q, 0, none⟩ = some (.func (.func 41) #[] #[])) (hl : q < w.heap.size) :
    Calls Try.prog 49 #[.agg #[.string a0, .string a1, .int .i64 a2, .int .i64 a3, .int .i64 a4, .int .i64 a5], .agg #[.string r0, .string r1, .int .i64 r2, .int .i64 r3, .int .i64 r4, .int .i64 r5], .pointer (some ⟨q, 0, none⟩)] w fun e w' => e = .returned (.int .i64 (cmpI (prKey2 ⟨a0, a1, a2, a3, a4, a5⟩) (prKey2 ⟨r0, r1, r2, r3, r4, r5⟩))) ∧ Below w.heap.size w w' := by
  have ka := fun w => key2_any a0 a1 a2 a3 a4 a5 w
  have kr := fun w => key2_any r0 r1 r2 r3 r4 r5 w
  generalize prKey2 ⟨a0, a1, a2, a3, a4, a5⟩ = x at *
  generalize prKey2 ⟨r0, r1, r2, r3, r4, r5⟩ = y at *
  have l1 : ∀ n : Nat, n < n + 1 + 1 := fun n => by omega
  have l2 : ∀ n : Nat, n < n + 2 := fun n => by omega
  have HB0 : Hid (Below w.heap.size w ((w.alloc (Obj.cells #[.string a0, .string a1, .int .i64 a2, .int .i64 a3, .int .i64 a4, .int .i64 a5] 36)).alloc (Obj.cells #[.string r0, .string r1, .int .i64 r2, .int .i64 r3, .int .i64 r4, .int .i64 r5] 36))) := chain (below_alloc _ _) (below_alloc _ _)
  go_enter Try.func49, Try.ntmps49
  go_wp2
  have e0 : (w.alloc (Obj.cells #[.string a0, .string a1, .int .i64 a2, .int .i64 a3, .int .i64 a4, .int .i64 a5] 36)).heap.size = w.heap.size + 1 := by simp
  have pa := (prNew w a0 a1 a2 a3 a4 a5).below (below_alloc _ (Obj.cells #[.string r0, .string r1, .int .i64 r2, .int .i64 r3, .int .i64 r4, .int .i64 r5] 36)) (by simp)
  have pr := prNew (w.alloc (Obj.cells #[.string a0, .string a1, .int .i64 a2, .int .i64 a3, .int .i64 a4, .int .i64 a5] 36)) r0 r1 r2 r3 r4 r5
  rw [e0] at pr
  have hq2 := (HB0.out.cell (p := ⟨q, 0, none⟩) hl).trans hq
  have hl2 : q < ((w.alloc (Obj.cells #[.string a0, .string a1, .int .i64 a2, .int .i64 a3, .int .i64 a4, .int .i64 a5] 36)).alloc (Obj.cells #[.string r0, .string r1, .int .i64 r2, .int .i64 r3, .int .i64 r4, .int .i64 r5] 36)).heap.size := Nat.lt_of_lt_of_le hl HB0.out.size
  have la : w.heap.size < ((w.alloc (Obj.cells #[.string a0, .string a1, .int .i64 a2, .int .i64 a3, .int .i64 a4, .int .i64 a5] 36)).alloc (Obj.cells #[.string r0, .string r1, .int .i64 r2, .int .i64 r3, .int .i64 r4, .int .i64 r5] 36)).heap.size := by simp; omega
  have lr : w.heap.size + 1 < ((w.alloc (Obj.cells #[.string a0, .string a1, .int .i64 a2, .int .i64 a3, .int .i64 a4, .int .i64 a5] 36)).alloc (Obj.cells #[.string r0, .string r1, .int .i64 r2, .int .i64 r3, .int .i64 r4, .int .i64 r5] 36)).heap.size := by simp
  obtain ⟨c0, c1, c2, c3, c4, c5⟩ := pa
  obtain ⟨d0, d1, d2, d3, d4, d5⟩ := pr
  dsimp only at c0 c1 c2 c3 c4 c5 d0 d1 d2 d3 d4 d5
  go_region_held3 (fun W => W.cell? ⟨q, 0, none⟩ = some (.func (.func 41) #[] #[]) ∧ W.cell? ⟨w.heap.size, 0, none⟩ = some (.string a0) ∧ W.cell? ⟨w.heap.size, 1, none⟩ = some (.string a1) ∧ W.cell? ⟨w.heap.size, 2, none⟩ = some (.int .i64 a2) ∧ W.cell? ⟨w.heap.size, 3, none⟩ = some (.int .i64 a3) ∧ W.cell? ⟨w.heap.size, 4, none⟩ = some (.int .i64 a4) ∧ W.cell? ⟨w.heap.size, 5, none⟩ = some (.int .i64 a5) ∧ W.cell? ⟨w.heap.size + 1, 0, none⟩ = some (.string r0) ∧ W.cell? ⟨w.heap.size + 1, 1, none⟩ = some (.string r1) ∧ W.cell? ⟨w.heap.size + 1, 2, none⟩ = some (.int .i64 r2) ∧ W.cell? ⟨w.heap.size + 1, 3, none⟩ = some (.int .i64 r3) ∧ W.cell? ⟨w.heap.size + 1, 4, none⟩ = some (.int .i64 r4) ∧ W.cell? ⟨w.heap.size + 1, 5, none⟩ = some (.int .i64 r5) ∧ q < W.heap.size ∧ w.heap.size < W.heap.size ∧ w.heap.size + 1 < W.heap.size) (first | exact ⟨hq2, c0, c1, c2, c3, c4, c5, d0, d1, d2, d3, d4, d5, hl2, la, lr⟩ | exact keepOB (by assumption) (by assumption) | assumption)
    (first | (go_at_call 41; refine (ka _).mono ?_; rintro e w2 ⟨rfl, hb2⟩) | (go_at_call 41; refine (kr _).mono ?_; rintro e w3 ⟨rfl, hb3⟩) | (go_at_call 50; refine (compare_any _ _ _).mono ?_; rintro e w4 ⟨rfl, rfl⟩))
  all_goals
    go_wp2
    go_ret
    first
    | exact ⟨rfl, chain (chain HB0.out (chain (below_drew _) hb2)) hb3⟩
    | exact ⟨rfl, chain (chain HB0.out (chain (below_drew _) hb3)) hb2⟩

set_option maxHeartbeats 1000000 in
set_option maxRecDepth 8000 in
theorem order3_any (a0 a1 : ByteArray) (a2 a3 a4 a5 : Int) (r0 r1 : ByteArray) (r2 r3 r4 r5 : Int) (q : Nat) (w : World) (hq : w.cell? ⟨q, 0, none⟩ = some (.func (.func 42) #[] #[])) (hl : q < w.heap.size) :
    Calls Try.prog 49 #[.agg #[.string a0, .string a1, .int .i64 a2, .int .i64 a3, .int .i64 a4, .int .i64 a5], .agg #[.string r0, .string r1, .int .i64 r2, .int .i64 r3, .int .i64 r4, .int .i64 r5], .pointer (some ⟨q, 0, none⟩)] w fun e w' => e = .returned (.int .i64 (cmpI (prKey3 ⟨a0, a1, a2, a3, a4, a5⟩) (prKey3 ⟨r0, r1, r2, r3, r4, r5⟩))) ∧ Below w.heap.size w w' := by
  have ka := fun w => key3_any a0 a1 a2 a3 a4 a5 w
  have kr := fun w => key3_any r0 r1 r2 r3 r4 r5 w
  generalize prKey3 ⟨a0, a1, a2, a3, a4, a5⟩ = x at *
  generalize prKey3 ⟨r0, r1, r2, r3, r4, r5⟩ = y at *
  have l1 : ∀ n : Nat, n < n + 1 + 1 := fun n => by omega
  have l2 : ∀ n : Nat, n < n + 2 := fun n => by omega
  have HB0 : Hid (Below w.heap.size w ((w.alloc (Obj.cells #[.string a0, .string a1, .int .i64 a2, .int .i64 a3, .int .i64 a4, .int .i64 a5] 36)).alloc (Obj.cells #[.string r0, .string r1, .int .i64 r2, .int .i64 r3, .int .i64 r4, .int .i64 r5] 36))) := chain (below_alloc _ _) (below_alloc _ _)
  go_enter Try.func49, Try.ntmps49
  go_wp2
  have e0 : (w.alloc (Obj.cells #[.string a0, .string a1, .int .i64 a2, .int .i64 a3, .int .i64 a4, .int .i64 a5] 36)).heap.size = w.heap.size + 1 := by simp
  have pa := (prNew w a0 a1 a2 a3 a4 a5).below (below_alloc _ (Obj.cells #[.string r0, .string r1, .int .i64 r2, .int .i64 r3, .int .i64 r4, .int .i64 r5] 36)) (by simp)
  have pr := prNew (w.alloc (Obj.cells #[.string a0, .string a1, .int .i64 a2, .int .i64 a3, .int .i64 a4, .int .i64 a5] 36)) r0 r1 r2 r3 r4 r5
  rw [e0] at pr
  have hq2 := (HB0.out.cell (p := ⟨q, 0, none⟩) hl).trans hq
  have hl2 : q < ((w.alloc (Obj.cells #[.string a0, .string a1, .int .i64 a2, .int .i64 a3, .int .i64 a4, .int .i64 a5] 36)).alloc (Obj.cells #[.string r0, .string r1, .int .i64 r2, .int .i64 r3, .int .i64 r4, .int .i64 r5] 36)).heap.size := Nat.lt_of_lt_of_le hl HB0.out.size
  have la : w.heap.size < ((w.alloc (Obj.cells #[.string a0, .string a1, .int .i64 a2, .int .i64 a3, .int .i64 a4, .int .i64 a5] 36)).alloc (Obj.cells #[.string r0, .string r1, .int .i64 r2, .int .i64 r3, .int .i64 r4, .int .i64 r5] 36)).heap.size := by simp; omega
  have lr : w.heap.size + 1 < ((w.alloc (Obj.cells #[.string a0, .string a1, .int .i64 a2, .int .i64 a3, .int .i64 a4, .int .i64 a5] 36)).alloc (Obj.cells #[.string r0, .string r1, .int .i64 r2, .int .i64 r3, .int .i64 r4, .int .i64 r5] 36)).heap.size := by simp
  obtain ⟨c0, c1, c2, c3, c4, c5⟩ := pa
  obtain ⟨d0, d1, d2, d3, d4, d5⟩ := pr
  dsimp only at c0 c1 c2 c3 c4 c5 d0 d1 d2 d3 d4 d5
  go_region_held3 (fun W => W.cell? ⟨q, 0, none⟩ = some (.func (.func 42) #[] #[]) ∧ W.cell? ⟨w.heap.size, 0, none⟩ = some (.string a0) ∧ W.cell? ⟨w.heap.size, 1, none⟩ = some (.string a1) ∧ W.cell? ⟨w.heap.size, 2, none⟩ = some (.int .i64 a2) ∧ W.cell? ⟨w.heap.size, 3, none⟩ = some (.int .i64 a3) ∧ W.cell? ⟨w.heap.size, 4, none⟩ = some (.int .i64 a4) ∧ W.cell? ⟨w.heap.size, 5, none⟩ = some (.int .i64 a5) ∧ W.cell? ⟨w.heap.size + 1, 0, none⟩ = some (.string r0) ∧ W.cell? ⟨w.heap.size + 1, 1, none⟩ = some (.string r1) ∧ W.cell? ⟨w.heap.size + 1, 2, none⟩ = some (.int .i64 r2) ∧ W.cell? ⟨w.heap.size + 1, 3, none⟩ = some (.int .i64 r3) ∧ W.cell? ⟨w.heap.size + 1, 4, none⟩ = some (.int .i64 r4) ∧ W.cell? ⟨w.heap.size + 1, 5, none⟩ = some (.int .i64 r5) ∧ q < W.heap.size ∧ w.heap.size < W.heap.size ∧ w.heap.size + 1 < W.heap.size) (first | exact ⟨hq2, c0, c1, c2, c3, c4, c5, d0, d1, d2, d3, d4, d5, hl2, la, lr⟩ | exact keepOB (by assumption) (by assumption) | assumption)
    (first | (go_at_call 42; refine (ka _).mono ?_; rintro e w2 ⟨rfl, hb2⟩) | (go_at_call 42; refine (kr _).mono ?_; rintro e w3 ⟨rfl, hb3⟩) | (go_at_call 50; refine (compare_any _ _ _).mono ?_; rintro e w4 ⟨rfl, rfl⟩))
  all_goals
    go_wp2
    go_ret
    first
    | exact ⟨rfl, chain (chain HB0.out (chain (below_drew _) hb2)) hb3⟩
    | exact ⟨rfl, chain (chain HB0.out (chain (below_drew _) hb3)) hb2⟩

end Go.Proofs.Ytgfgecpgfcipnaa
