/-
  Contract of the program's Alarms, for all arguments.
-/
import Derived.Test.YtillkllkekhmfaaAmP
import Derived.Deep.Onto
namespace Go.Proofs.Ytillkllkekhmfaa
open Go.ChangeShapes Go.WideShapes Go.ChangeAt Go.RowKit Go.Joins Go.Deep Go.Shelf
set_option linter.unusedVariables false
attribute [local go_sem] run_store_float

theorem implAlarms_fault (a : Option Addr) (cap : Nat) (xs : List Nat) (hi lo : Nat) (hold : Int) (hl : xs.length ≤ 100000000) (w : World) (hr : ReadsF w.heap.size w a xs) (h : trC xs ≠ 0) :
    Calls Try.prog 13 #[.slice a xs.length cap, .float .f64 hi, .float .f64 lo, .int .i64 hold] w (AnsAm w [] (trC xs)) := by
  have HT : Hid (Calls Try.prog 33 #[.slice a xs.length cap] w fun e w' => e = .returned (.int .i64 (trC xs)) ∧ Below w.heap.size w w') := traceFault_any a cap xs hl w hr
  clear hr
  generalize trC xs = c at *
  have hc : (c != 0) = true := by simp [h]
  go_enter Try.func13, Try.ntmps13
  go_wp2_with (go_at_call 33; refine HT.out.mono ?_; rintro e w1 ⟨rfl, hb1⟩)
  go_ret2
  exact AnsAm.nil hb1
set_option maxHeartbeats 4000000 in
theorem implAlarms_any (a : Option Addr) (cap : Nat) (xs : List Nat) (hi lo : Nat) (hold : Int) (hl : xs.length ≤ 100000000) (w : World) (hr : ReadsF w.heap.size w a xs) :
    Calls Try.prog 13 #[.slice a xs.length cap, .float .f64 hi, .float .f64 lo, .int .i64 hold] w (AnsAm w (amL xs hi lo hold) (amC xs hi lo hold)) := by
  by_cases h : trC xs = 0
  case neg =>
    rcases am_ways xs hi lo hold with ⟨h1, h2, h3⟩ | ⟨h1, _⟩ | ⟨h1, _⟩
    · rw [h2, h3]; exact implAlarms_fault a cap xs hi lo hold hl w hr h1
    · exact absurd h1 h
    · exact absurd h1 h
  obtain ⟨hlen, hok⟩ := trC_right h
  have HT : Hid (Calls Try.prog 33 #[.slice a xs.length cap] w fun e w' => e = .returned (.int .i64 0) ∧ Below w.heap.size w w') := by show Calls _ _ _ _ _; rw [← h]; exact traceFault_any a cap xs hl w hr
  have HD : Hid (∀ x W, Calls Try.prog 37 #[.float .f64 x] W fun e w' => e = .returned (.bool (dgF x)) ∧ Below W.heap.size W w') := fun x W => degree_any x W
  have HS : Hid (∀ W, Calls Try.prog 39 #[.agg #[.int .i64 1, .int .i64 200], .int .i64 hold] W fun e w' => e = .returned (.bool (inB hold 1 200)) ∧ Below W.heap.size W w') := fun W => qSpan_any 1 200 hold W
  have HA : Hid (inB hold 1 200 = true → ∀ W, Below w.heap.size w W → Calls Try.prog 40 #[.slice a xs.length cap, .float .f64 hi, .float .f64 lo, .int .i64 hold] W fun e w' => ∃ g cp, e = .returned (.slice g (full (xs.length : Int) (amF lo hi hold (thT xs xs.length))).length cp) ∧ w'.ownsRow W.heap.size 39 2 (.slice g (full (xs.length : Int) (amF lo hi hold (thT xs xs.length))).length cp) (full (xs.length : Int) (amF lo hi hold (thT xs xs.length))).length (alCells (full (xs.length : Int) (amF lo hi hold (thT xs xs.length)))) ∧ Below W.heap.size W w') := fun hh W hb => alarmsOf_any a cap xs hi lo hold hlen hok (by unfold inB at hh; exact of_decide_eq_true hh) W (hr.later hb)
  have HNo : Hid ((dgF hi && dgF lo && !ltF hi lo && inB hold 1 200) = false → ∀ w', Below w.heap.size w w' → AnsAm w (amL xs hi lo hold) (amC xs hi lo hold) (.returned (.tuple #[.slice none 0 0, .int .i64 1])) w') := fun h2 w' hb => by
    rcases am_ways xs hi lo hold with ⟨h1, _⟩ | ⟨_, _, h3, h4⟩ | ⟨_, h3, _⟩
    · exact absurd h h1
    · rw [h3, h4]; exact AnsAm.nil hb
    · rw [h2] at h3; cases h3
  have HYe : Hid ((dgF hi && dgF lo && !ltF hi lo && inB hold 1 200) = true → ∀ (B : Nat) (w' : World) (g : Option Addr) (cp : Nat), w.heap.size ≤ B → w'.ownsRow B 39 2 (.slice g (full (xs.length : Int) (amF lo hi hold (thT xs xs.length))).length cp) (full (xs.length : Int) (amF lo hi hold (thT xs xs.length))).length (alCells (full (xs.length : Int) (amF lo hi hold (thT xs xs.length)))) → Below w.heap.size w w' → AnsAm w (amL xs hi lo hold) (amC xs hi lo hold) (.returned (.tuple #[.slice g (full (xs.length : Int) (amF lo hi hold (thT xs xs.length))).length cp, .int .i64 0])) w') := fun h2 B w' g cp hB ho hb => by
    rcases am_ways xs hi lo hold with ⟨h1, _⟩ | ⟨_, h3, _⟩ | ⟨_, _, h3, h4⟩
    · exact absurd h h1
    · rw [h2] at h3; cases h3
    · rw [h3, h4]; exact ⟨g, cp, rfl, World.ownsRow.mono ho hB, hb⟩
  have hG := o_gt lo hi
  clear hr h hok
  generalize full (xs.length : Int) (amF lo hi hold (thT xs xs.length)) = R at *
  have HD1 := HD.out hi
  have HD2 := HD.out lo
  clear HD
  generalize dgF hi = b1 at *
  generalize dgF lo = b2 at *
  generalize ltF hi lo = b3 at *
  generalize inB hold 1 200 = b4 at *
  have HD1' : Hid (∀ W, Calls Try.prog 37 #[.float .f64 hi] W fun e w' => e = .returned (.bool b1) ∧ Below W.heap.size W w') := HD1
  have HD2' : Hid (∀ W, Calls Try.prog 37 #[.float .f64 lo] W fun e w' => e = .returned (.bool b2) ∧ Below W.heap.size W w') := HD2
  clear HD1 HD2
  go_enter Try.func13, Try.ntmps13
  go_wp2_with fail
  (first | go_at_call 33 | skip)
  refine HT.out.mono ?_
  rintro e w1 ⟨rfl, hb1⟩
  have B1 : Hid (Below w.heap.size w w1) := hb1
  have HBx : Hid (∀ W, Below (w1.alloc (Obj.cells #[.int .i64 1, .int .i64 200] 69)).heap.size (w1.alloc (Obj.cells #[.int .i64 1, .int .i64 200] 69)) W → (W.cell? ⟨w1.heap.size, 0, none⟩ = some (.int .i64 1) ∧ W.cell? ⟨w1.heap.size, 1, none⟩ = some (.int .i64 200)) ∧ Below w.heap.size w W) := fun W hb => by
    have q := (hb.block w1.heap.size (by simp)).trans (heapNew _ _)
    exact ⟨⟨blkCell q 0 _ rfl, blkCell q 1 _ rfl⟩, chain (chain B1.out (below_alloc _ _)) hb⟩
  clear hb1
  go_wp2_with fail
  (first | go_at_call 37 | skip)
  refine (HD1'.out _).mono ?_
  rintro e w2 ⟨rfl, hb2⟩
  have HX2 := HBx.out w2 hb2
  have L2 : Hid (Below (w1.alloc (Obj.cells #[.int .i64 1, .int .i64 200] 69)).heap.size (w1.alloc (Obj.cells #[.int .i64 1, .int .i64 200] 69)) w2) := hb2
  clear hb2
  cases b1
  · go_wp2
    go_ret2
    exact HNo.out rfl _ HX2.2
  clear HX2
  go_wp2_with fail
  (first | go_at_call 37 | skip)
  refine (HD2'.out _).mono ?_
  rintro e w3 ⟨rfl, hb3⟩
  have L3 : Hid (Below (w1.alloc (Obj.cells #[.int .i64 1, .int .i64 200] 69)).heap.size (w1.alloc (Obj.cells #[.int .i64 1, .int .i64 200] 69)) w3) := chain L2.out hb3
  obtain ⟨⟨c0, c1⟩, B3⟩ := HBx.out w3 L3.out
  clear hb3 L2
  cases b2
  · go_wp2
    go_ret2
    exact HNo.out rfl _ B3
  cases b3
  case true =>
    go_wp2
    go_ret2
    exact HNo.out rfl _ B3
  have B3' : Hid (Below w.heap.size w w3) := B3
  clear B3
  go_wp2_with fail
  (first | go_at_call 39 | skip)
  refine (HS.out _).mono ?_
  rintro e w4 ⟨rfl, hb4⟩
  have B4 : Hid (Below w.heap.size w w4) := chain B3'.out hb4
  clear hb4 c0 c1
  cases b4
  · go_wp2
    go_ret2
    exact HNo.out rfl _ B4.out
  go_wp2_with fail
  (first | go_at_call 40 | skip)
  refine (HA.out (by first | rfl | trivial) _ B4.out).mono ?_
  rintro e w5 ⟨g, cp, rfl, ho, hb5⟩
  have HO : Hid (w5.ownsRow w4.heap.size 39 2 (.slice g R.length cp) R.length (alCells R)) := ho
  have B5 : Hid (Below w.heap.size w w5) := chain B4.out hb5
  clear ho hb5
  go_wp2
  go_ret2
  exact HYe.out rfl _ _ _ _ B4.out.size HO.out B5.out
end Go.Proofs.Ytillkllkekhmfaa
