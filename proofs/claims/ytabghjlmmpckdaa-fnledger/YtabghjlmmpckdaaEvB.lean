/-
  Events of shops: what is right as mathematics; contracts of the program's amountRight, right, compareEvents and of the specification's l12Right, l12Ahead, for every event.
-/
import Derived.Test.YtabghjlmmpckdaaEvA
import Derived.Test.YtabghjlmmpckdaaRowG
import Derived.Test.YtabghjlmmpckdaaNameAny
import Derived.Test.YtabghjlmmpckdaaRate
import Derived.Deep.RegionHeld3
namespace Go.Proofs.Ytabghjlmmpckdaa
open Go.ChangeShapes Go.WideShapes Go.ChangeAt Go.RowKit
set_option linter.unusedVariables false

def evAmt (kd am : Int) : Bool := if kd = 3 then decide (am = 0) else decide (kd = 1 ∨ kd = 2) && inB am 1 1000000
def evOne (r : REv) : Bool := inB r.sh 1 9 && (inB r.sq 1 120 && (inB r.tm 0 1000000000 && (nameB r.cd && evAmt r.kd r.am)))
/-- The first of two stands ahead of the second. -/
def evAh (x y : REv) : Bool := if x.tm = y.tm then (if x.sh = y.sh then decide (x.sq < y.sq) else decide (x.sh < y.sh)) else decide (x.tm < y.tm)
def cmpE (x y : Int) : Int := if x < y then -1 else if y < x then 1 else 0
def orE (a b c : Int) : Int := if a = 0 then (if b = 0 then c else b) else a
def evCmp (x y : REv) : Int := orE (cmpE x.tm y.tm) (cmpE x.sh y.sh) (cmpE x.sq y.sq)
theorem cmpE_zero (x y : Int) : cmpE x y = 0 ↔ x = y := by
  unfold cmpE
  split
  · constructor <;> intro h <;> omega
  · split
    · constructor <;> intro h <;> omega
    · constructor <;> intro h <;> omega
theorem cmpE_neg (x y : Int) : cmpE x y < 0 ↔ x < y := by
  unfold cmpE
  split
  · constructor <;> intro h <;> omega
  · split
    · constructor <;> intro h <;> omega
    · constructor <;> intro h <;> omega
theorem evCmp_ah (x y : REv) : evAh x y = decide (evCmp x y < 0) := by
  unfold evAh evCmp orE
  by_cases h1 : x.tm = y.tm
  · rw [if_pos h1, if_pos ((cmpE_zero _ _).2 h1)]
    by_cases h2 : x.sh = y.sh
    · rw [if_pos h2, if_pos ((cmpE_zero _ _).2 h2)]
      exact decide_eq_decide.2 (cmpE_neg _ _).symm
    · rw [if_neg h2, if_neg (fun h => h2 ((cmpE_zero _ _).1 h))]
      exact decide_eq_decide.2 (cmpE_neg _ _).symm
  · rw [if_neg h1, if_neg (fun h => h1 ((cmpE_zero _ _).1 h))]
    exact decide_eq_decide.2 (cmpE_neg _ _).symm
theorem cmpE_bd (x y : Int) : -1 ≤ cmpE x y ∧ cmpE x y ≤ 1 := by unfold cmpE; split <;> (try split) <;> omega

theorem evSpan_any (a b n : Int) (w : World) :
    Calls Try.prog 54 #[.agg #[.int .i64 a, .int .i64 b], .int .i64 n] w fun e w' => e = .returned (.bool (inB n a b)) ∧ Below w.heap.size w w' := by
  unfold inB
  rcases (by omega : n < a ∨ (a ≤ n ∧ b < n) ∨ (a ≤ n ∧ n ≤ b)) with h1 | ⟨h1, h2⟩ | ⟨h1, h2⟩
  all_goals
    go_enter Try.func54, Try.ntmps54
    go_wp2
    go_ret
    refine ⟨ret_bool ?_, below_alloc _ _⟩
    rw [Bool.eq_iff_iff]
    simp <;> omega
set_option maxHeartbeats 2000000 in
theorem evAmt_any (sh sq tm kd : Int) (cd : ByteArray) (am : Int) (w : World) :
    Calls Try.prog 56 #[.agg #[.int .i64 sh, .int .i64 sq, .int .i64 tm, .int .i64 kd, .string cd, .int .i64 am]] w fun e w' => e = .returned (.bool (evAmt kd am)) ∧ Below w.heap.size w w' := by
  unfold evAmt
  rcases (by omega : kd = 1 ∨ kd = 2 ∨ kd = 3 ∨ (¬ kd = 1 ∧ ¬ kd = 2 ∧ ¬ kd = 3)) with rfl | rfl | rfl | ⟨h1, h2, h3⟩
  · have H : Hid (∀ W, Calls Try.prog 54 #[.agg #[.int .i64 1, .int .i64 1000000], .int .i64 am] W fun e w' => e = .returned (.bool (inB am 1 1000000)) ∧ Below W.heap.size W w') := fun W => evSpan_any 1 1000000 am W
    rw [if_neg (by decide), decide_eq_true (by omega), Bool.true_and]
    generalize inB am 1 1000000 = b at *
    go_enter Try.func56, Try.ntmps56
    go_wp2_with (go_at_call 54; refine (H.out _).mono ?_; rintro e w1 ⟨rfl, hb1⟩)
    go_ret
    exact ⟨rfl, chain (below_alloc _ _) hb1⟩
  · have H : Hid (∀ W, Calls Try.prog 54 #[.agg #[.int .i64 1, .int .i64 1000000], .int .i64 am] W fun e w' => e = .returned (.bool (inB am 1 1000000)) ∧ Below W.heap.size W w') := fun W => evSpan_any 1 1000000 am W
    rw [if_neg (by decide), decide_eq_true (by omega), Bool.true_and]
    generalize inB am 1 1000000 = b at *
    go_enter Try.func56, Try.ntmps56
    go_wp2_with (go_at_call 54; refine (H.out _).mono ?_; rintro e w1 ⟨rfl, hb1⟩)
    go_ret
    exact ⟨rfl, chain (below_alloc _ _) hb1⟩
  · rw [if_pos rfl]
    by_cases h : am = 0
    · rw [decide_eq_true h]
      subst h
      go_enter Try.func56, Try.ntmps56
      go_wp2
      go_ret
      exact ⟨rfl, below_alloc _ _⟩
    · rw [decide_eq_false h]
      go_enter Try.func56, Try.ntmps56
      go_wp2
      go_ret
      exact ⟨ret_bool (by simpa using h), below_alloc _ _⟩
  · rw [if_neg h3, decide_eq_false (by omega), Bool.false_and]
    go_enter Try.func56, Try.ntmps56
    go_wp2
    go_ret
    exact ⟨rfl, below_alloc _ _⟩
theorem four_new (w : World) (o1 o2 o3 o4 : Obj) : ((((w.alloc o1).alloc o2).alloc o3).alloc o4).heap[w.heap.size]? = some o1 ∧ ((((w.alloc o1).alloc o2).alloc o3).alloc o4).heap[w.heap.size + 1]? = some o2 ∧ ((((w.alloc o1).alloc o2).alloc o3).alloc o4).heap[w.heap.size + 2]? = some o3 ∧ ((((w.alloc o1).alloc o2).alloc o3).alloc o4).heap[w.heap.size + 3]? = some o4 ∧ ((((w.alloc o1).alloc o2).alloc o3).alloc o4).heap.size = w.heap.size + 4 := by
  refine ⟨?_, ?_, ?_, ?_, ?_⟩
  · rw [(below_alloc _ _).block _ (by simp <;> omega), (below_alloc _ _).block _ (by simp <;> omega), (below_alloc _ _).block _ (by simp), heapNew]
  · rw [(below_alloc _ _).block _ (by simp <;> omega), (below_alloc _ _).block _ (by simp)]
    have := heapNew (w.alloc o1) o2
    simpa using this
  · rw [(below_alloc _ _).block _ (by simp)]
    have := heapNew ((w.alloc o1).alloc o2) o3
    simpa using this
  · have := heapNew (((w.alloc o1).alloc o2).alloc o3) o4
    simpa using this
  · simp
def RtBox (n : Nat) (sh sq tm kd : Int) (cd : ByteArray) (am : Int) (W : World) : Prop :=
  EvAt W n 0 ⟨sh, sq, tm, kd, cd, am⟩ ∧ W.cell? ⟨n + 1, 0, none⟩ = some (.int .i64 1) ∧ W.cell? ⟨n + 1, 1, none⟩ = some (.int .i64 9) ∧ W.cell? ⟨n + 2, 0, none⟩ = some (.int .i64 1) ∧ W.cell? ⟨n + 2, 1, none⟩ = some (.int .i64 120) ∧ W.cell? ⟨n + 3, 0, none⟩ = some (.int .i64 0) ∧ W.cell? ⟨n + 3, 1, none⟩ = some (.int .i64 1000000000) ∧ n + 3 < W.heap.size
theorem RtBox.later {n : Nat} {sh sq tm kd : Int} {cd : ByteArray} {am : Int} {W W' : World} (h : RtBox n sh sq tm kd cd am W) (hb : Below W.heap.size W W') : RtBox n sh sq tm kd cd am W' := by
  obtain ⟨h0, h1, h2, h3, h4, h5, h6, h7⟩ := h
  exact ⟨h0.below hb (by omega), (hb.cell (p := ⟨n + 1, 0, none⟩) (by show n + 1 < _; omega)).trans h1, (hb.cell (p := ⟨n + 1, 1, none⟩) (by show n + 1 < _; omega)).trans h2, (hb.cell (p := ⟨n + 2, 0, none⟩) (by show n + 2 < _; omega)).trans h3, (hb.cell (p := ⟨n + 2, 1, none⟩) (by show n + 2 < _; omega)).trans h4, (hb.cell (p := ⟨n + 3, 0, none⟩) (by show n + 3 < _; omega)).trans h5, (hb.cell (p := ⟨n + 3, 1, none⟩) (by show n + 3 < _; omega)).trans h6, Nat.lt_of_lt_of_le h7 hb.size⟩
set_option maxHeartbeats 4000000 in
theorem evRight_any (sh sq tm kd : Int) (cd : ByteArray) (am : Int) (hc : cd.size ≤ 2000000) (w : World) :
    Calls Try.prog 31 #[.agg #[.int .i64 sh, .int .i64 sq, .int .i64 tm, .int .i64 kd, .string cd, .int .i64 am]] w fun e w' => e = .returned (.bool (evOne ⟨sh, sq, tm, kd, cd, am⟩)) ∧ Below w.heap.size w w' := by
  have S1 : Hid (∀ W, Calls Try.prog 54 #[.agg #[.int .i64 1, .int .i64 9], .int .i64 sh] W fun e w' => e = .returned (.bool (inB sh 1 9)) ∧ Below W.heap.size W w') := fun W => evSpan_any 1 9 sh W
  have S2 : Hid (∀ W, Calls Try.prog 54 #[.agg #[.int .i64 1, .int .i64 120], .int .i64 sq] W fun e w' => e = .returned (.bool (inB sq 1 120)) ∧ Below W.heap.size W w') := fun W => evSpan_any 1 120 sq W
  have S3 : Hid (∀ W, Calls Try.prog 54 #[.agg #[.int .i64 0, .int .i64 1000000000], .int .i64 tm] W fun e w' => e = .returned (.bool (inB tm 0 1000000000)) ∧ Below W.heap.size W w') := fun W => evSpan_any 0 1000000000 tm W
  have S4 : Hid (∀ W, Calls Try.prog 55 #[.string cd] W fun e w' => e = .returned (.bool (nameB cd)) ∧ Below W.heap.size W w') := fun W => implName_any cd (by unfold maxLen; omega) W
  have S5 : Hid (∀ W, Calls Try.prog 56 #[.agg #[.int .i64 sh, .int .i64 sq, .int .i64 tm, .int .i64 kd, .string cd, .int .i64 am]] W fun e w' => e = .returned (.bool (evAmt kd am)) ∧ Below W.heap.size W w') := fun W => evAmt_any sh sq tm kd cd am W
  have e0 : evOne ⟨sh, sq, tm, kd, cd, am⟩ = (inB sh 1 9 && (inB sq 1 120 && (inB tm 0 1000000000 && (nameB cd && evAmt kd am)))) := rfl
  rw [e0]
  clear e0
  generalize inB sh 1 9 = b1 at *
  generalize inB sq 1 120 = b2 at *
  generalize inB tm 0 1000000000 = b3 at *
  generalize nameB cd = b4 at *
  generalize evAmt kd am = b5 at *
  have HB0 : Hid (∀ W : World, ∀ o1 o2 o3 o4, Below W.heap.size W ((((W.alloc o1).alloc o2).alloc o3).alloc o4)) := fun W o1 o2 o3 o4 => chain (chain (chain (below_alloc _ _) (below_alloc _ _)) (below_alloc _ _)) (below_alloc _ _)
  have HX0 : Hid (RtBox w.heap.size sh sq tm kd cd am ((((w.alloc (.cells #[.int .i64 sh, .int .i64 sq, .int .i64 tm, .int .i64 kd, .string cd, .int .i64 am] 35)).alloc (.cells #[.int .i64 1, .int .i64 9] 83)).alloc (.cells #[.int .i64 1, .int .i64 120] 83)).alloc (.cells #[.int .i64 0, .int .i64 1000000000] 83))) := by
    obtain ⟨k1, k2, k3, k4, k5⟩ := four_new w (.cells #[.int .i64 sh, .int .i64 sq, .int .i64 tm, .int .i64 kd, .string cd, .int .i64 am] 35) (.cells #[.int .i64 1, .int .i64 9] 83) (.cells #[.int .i64 1, .int .i64 120] 83) (.cells #[.int .i64 0, .int .i64 1000000000] 83)
    refine ⟨⟨blkCell k1 _ _ rfl, blkCell k1 _ _ rfl, blkCell k1 _ _ rfl, blkCell k1 _ _ rfl, blkCell k1 _ _ rfl, blkCell k1 _ _ rfl⟩, blkCell k2 _ _ rfl, blkCell k2 _ _ rfl, blkCell k3 _ _ rfl, blkCell k3 _ _ rfl, blkCell k4 _ _ rfl, blkCell k4 _ _ rfl, by rw [k5]; omega⟩
  go_enter Try.func31, Try.ntmps31
  go_wp2_with fail
  go_at_call 54
  refine (S1.out _).mono ?_
  rintro e w1 ⟨rfl, hb1⟩
  have HX1 : Hid (RtBox w.heap.size sh sq tm kd cd am w1) := HX0.out.later hb1
  have HB1 : Hid (Below w.heap.size w w1) := chain (HB0.out _ _ _ _ _) hb1
  obtain ⟨⟨c0, c1, c2, c3, c4, c5⟩, d1, d2, d3, d4, d5, d6, d7⟩ := HX1.out
  simp only [Nat.zero_add] at c0 c1 c2 c3 c4 c5
  clear hb1 S1 HX0 HB0
  cases b1
  · go_wp2
    go_ret
    exact ⟨rfl, HB1.out⟩
  go_wp2_with fail
  go_at_call 54
  refine (S2.out _).mono ?_
  rintro e w2 ⟨rfl, hb2⟩
  have HX2 : Hid (RtBox w.heap.size sh sq tm kd cd am w2) := HX1.out.later hb2
  have HB2 : Hid (Below w.heap.size w w2) := chain HB1.out hb2
  clear c0 c1 c2 c3 c4 c5 d1 d2 d3 d4 d5 d6 d7
  obtain ⟨⟨c0, c1, c2, c3, c4, c5⟩, d1, d2, d3, d4, d5, d6, d7⟩ := HX2.out
  simp only [Nat.zero_add] at c0 c1 c2 c3 c4 c5
  clear hb2 S2 HX1 HB1
  cases b2
  · go_wp2
    go_ret
    exact ⟨rfl, HB2.out⟩
  go_wp2_with fail
  go_at_call 54
  refine (S3.out _).mono ?_
  rintro e w3 ⟨rfl, hb3⟩
  have HX3 : Hid (RtBox w.heap.size sh sq tm kd cd am w3) := HX2.out.later hb3
  have HB3 : Hid (Below w.heap.size w w3) := chain HB2.out hb3
  clear c0 c1 c2 c3 c4 c5 d1 d2 d3 d4 d5 d6 d7
  obtain ⟨⟨c0, c1, c2, c3, c4, c5⟩, d1, d2, d3, d4, d5, d6, d7⟩ := HX3.out
  simp only [Nat.zero_add] at c0 c1 c2 c3 c4 c5
  clear hb3 S3 HX2 HB2
  cases b3
  · go_wp2
    go_ret
    exact ⟨rfl, HB3.out⟩
  go_wp2_with fail
  go_at_call 55
  refine (S4.out _).mono ?_
  rintro e w4 ⟨rfl, hb4⟩
  have HX4 : Hid (RtBox w.heap.size sh sq tm kd cd am w4) := HX3.out.later hb4
  have HB4 : Hid (Below w.heap.size w w4) := chain HB3.out hb4
  clear c0 c1 c2 c3 c4 c5 d1 d2 d3 d4 d5 d6 d7
  obtain ⟨⟨c0, c1, c2, c3, c4, c5⟩, d1, d2, d3, d4, d5, d6, d7⟩ := HX4.out
  simp only [Nat.zero_add] at c0 c1 c2 c3 c4 c5
  clear hb4 S4 HX3 HB3
  cases b4
  · go_wp2
    go_ret
    exact ⟨rfl, HB4.out⟩
  go_wp2_with fail
  go_at_call 56
  refine (S5.out _).mono ?_
  rintro e w5 ⟨rfl, hb5⟩
  have HB5 : Hid (Below w.heap.size w w5) := chain HB4.out hb5
  clear hb5
  go_wp2
  go_ret
  exact ⟨rfl, HB5.out⟩
/-! ### compareEvents -/
theorem evNaN_any (x : Int) (w : World) : Calls Try.prog 68 #[.int .i64 x] w fun e w' => e = .returned (.bool false) ∧ w' = w := by
  go_enter Try.func68, Try.ntmps68
  go_wp2
  go_ret
  exact ⟨rfl, rfl⟩
theorem evCompare_any (x y : Int) (w : World) : Calls Try.prog 58 #[.int .i64 x, .int .i64 y] w fun e w' => e = .returned (.int .i64 (cmpE x y)) ∧ w' = w := by
  unfold cmpE
  rcases (by omega : x < y ∨ (y < x ∧ ¬ x < y) ∨ (¬ x < y ∧ ¬ y < x)) with h | ⟨h, h'⟩ | ⟨h, h'⟩
  · rw [if_pos h]
    go_enter Try.func58, Try.ntmps58
    go_wp2_with (go_at_call 68; refine (evNaN_any _ _).mono ?_; rintro e w1 ⟨rfl, rfl⟩)
    go_ret
    exact ⟨rfl, rfl⟩
  · rw [if_neg h', if_pos h]
    go_enter Try.func58, Try.ntmps58
    go_wp2_with (go_at_call 68; refine (evNaN_any _ _).mono ?_; rintro e w1 ⟨rfl, rfl⟩)
    go_ret
    exact ⟨rfl, rfl⟩
  · rw [if_neg h, if_neg h']
    go_enter Try.func58, Try.ntmps58
    go_wp2_with (go_at_call 68; refine (evNaN_any _ _).mono ?_; rintro e w1 ⟨rfl, rfl⟩)
    go_ret
    exact ⟨rfl, rfl⟩
set_option maxHeartbeats 2000000 in
theorem evOr_any (b : Nat) (x y z : Int) (w : World) (h0 : w.cell? ⟨b, 0, none⟩ = some (.int .i64 x)) (h1 : w.cell? ⟨b, 1, none⟩ = some (.int .i64 y)) (h2 : w.cell? ⟨b, 2, none⟩ = some (.int .i64 z)) :
    Calls Try.prog 57 #[.slice (some ⟨b, 0, none⟩) 3 3] w fun e w' => e = .returned (.int .i64 (orE x y z)) ∧ w' = w := by
  have HC : Hid (w.cell? ⟨b, 0, none⟩ = some (.int .i64 x) ∧ w.cell? ⟨b, 1, none⟩ = some (.int .i64 y) ∧ w.cell? ⟨b, 2, none⟩ = some (.int .i64 z)) := ⟨h0, h1, h2⟩
  clear h0 h1 h2
  have HG : Hid (∀ k : Nat, k < 3 → ∃ v : Int, w.cell? ⟨b, k, none⟩ = some (.int .i64 v) ∧ (k = 0 → v = x) ∧ (k = 1 → v = y) ∧ (k = 2 → v = z)) := fun k hk => by
    obtain ⟨h0, h1, h2⟩ := HC.out
    rcases (by omega : k = 0 ∨ k = 1 ∨ k = 2) with rfl | rfl | rfl
    · exact ⟨x, h0, fun _ => rfl, by omega, by omega⟩
    · exact ⟨y, h1, by omega, fun _ => rfl, by omega⟩
    · exact ⟨z, h2, by omega, by omega, fun _ => rfl⟩
  go_enter Try.func57, Try.ntmps57
  go_wp2
  go_loop [5, 8] (fun _ c => ∃ k : Nat, k ≤ 3 ∧ c = .int .i64 (k : Int) ∧ (0 < k → x = 0) ∧ (1 < k → y = 0) ∧ (2 < k → z = 0)) (fun _ c => 3 - (intOf c).toNat)
  case atStart => exact ⟨0, by omega, rfl, by omega, by omega, by omega⟩
  case round =>
    obtain ⟨k, hk, rfl, z0, z1, z2⟩ := hrel
    have HZ : Hid ((0 < k → x = 0) ∧ (1 < k → y = 0) ∧ (2 < k → z = 0)) := ⟨z0, z1, z2⟩
    clear z0 z1 z2
    by_cases hlt : k < 3
    · have hlt' : (k : Int) < 3 := by omega
      obtain ⟨v, hv, g0, g1, g2⟩ := HG.out k hlt
      have HV : Hid ((k = 0 → v = x) ∧ (k = 1 → v = y) ∧ (k = 2 → v = z)) := ⟨g0, g1, g2⟩
      clear g0 g1 g2
      by_cases hz : v = 0
      · go_wp2
        go_round
        case rel =>
          obtain ⟨g0, g1, g2⟩ := HV.out
          obtain ⟨z0, z1, z2⟩ := HZ.out
          exact ⟨k + 1, by omega, by go_num, fun h => by rcases (by omega : k = 0 ∨ 0 < k) with e | e; exact (g0 e).symm.trans hz; exact z0 e, fun h => by rcases (by omega : k = 1 ∨ 1 < k) with e | e; exact (g1 e).symm.trans hz; exact z1 e, fun h => by rcases (by omega : k = 2 ∨ 2 < k) with e | e; exact (g2 e).symm.trans hz; exact z2 e⟩
        case measure => simp [intOf]; omega
      · go_wp2
        go_ret
        refine ⟨ret_int ?_, rfl⟩
        unfold orE
        obtain ⟨g0, g1, g2⟩ := HV.out
        obtain ⟨z0, z1, z2⟩ := HZ.out
        rcases (by omega : k = 0 ∨ k = 1 ∨ k = 2) with e | e | e
        · have := g0 e; rw [if_neg (by omega)]; exact this
        · have := g1 e; rw [if_pos (z0 (by omega)), if_neg (by omega)]; exact this
        · have := g2 e; rw [if_pos (z0 (by omega)), if_pos (z1 (by omega))]; exact this
    · obtain ⟨z0, z1, z2⟩ := HZ.out
      have e0 : orE x y z = 0 := by unfold orE; rw [if_pos (z0 (by omega)), if_pos (z1 (by omega))]; exact z2 (by omega)
      have HE : Hid (orE x y z = 0) := e0
      clear e0 z0 z1 z2
      go_wp2
      go_ret
      exact ⟨ret_int HE.out.symm, rfl⟩
set_option maxHeartbeats 4000000 in
theorem evCompares_any (x0 x1 x2 x3 : Int) (x4 : ByteArray) (x5 : Int) (y0 y1 y2 y3 : Int) (y4 : ByteArray) (y5 : Int) (wa : World) :
    Calls Try.prog 32 #[.agg #[.int .i64 x0, .int .i64 x1, .int .i64 x2, .int .i64 x3, .string x4, .int .i64 x5], .agg #[.int .i64 y0, .int .i64 y1, .int .i64 y2, .int .i64 y3, .string y4, .int .i64 y5]] wa fun e w' => e = .returned (.int .i64 (evCmp ⟨x0, x1, x2, x3, x4, x5⟩ ⟨y0, y1, y2, y3, y4, y5⟩)) ∧ Below wa.heap.size wa w' := by
  have e0 : evCmp ⟨x0, x1, x2, x3, x4, x5⟩ ⟨y0, y1, y2, y3, y4, y5⟩ = orE (cmpE x2 y2) (cmpE x0 y0) (cmpE x1 y1) := rfl
  rw [e0]
  clear e0
  go_enter Try.func32, Try.ntmps32
  go_wp2
  generalize hW : (wa.alloc (.cells #[.int .i64 x0, .int .i64 x1, .int .i64 x2, .int .i64 x3, .string x4, .int .i64 x5] 35)).alloc (.cells #[.int .i64 y0, .int .i64 y1, .int .i64 y2, .int .i64 y3, .string y4, .int .i64 y5] 35) = W0
  have k1 : W0.heap[wa.heap.size]? = some (.cells #[.int .i64 x0, .int .i64 x1, .int .i64 x2, .int .i64 x3, .string x4, .int .i64 x5] 35 (0, 0)) := by
    rw [← hW, (below_alloc _ _).block _ (by simp), heapNew]
  have k2 : W0.heap[wa.heap.size + 1]? = some (.cells #[.int .i64 y0, .int .i64 y1, .int .i64 y2, .int .i64 y3, .string y4, .int .i64 y5] 35 (0, 0)) := by
    rw [← hW]
    have := heapNew (wa.alloc (.cells #[.int .i64 x0, .int .i64 x1, .int .i64 x2, .int .i64 x3, .string x4, .int .i64 x5] 35)) (.cells #[.int .i64 y0, .int .i64 y1, .int .i64 y2, .int .i64 y3, .string y4, .int .i64 y5] 35)
    simpa using this
  have HB : Hid (Below wa.heap.size wa W0) := by rw [← hW]; exact chain (below_alloc _ _) (below_alloc _ _)
  clear hW
  have c0 := blkCell k1 0 _ rfl
  have c1 := blkCell k1 1 _ rfl
  have c2 := blkCell k1 2 _ rfl
  have d0 := blkCell k2 0 _ rfl
  have d1 := blkCell k2 1 _ rfl
  have d2 := blkCell k2 2 _ rfl
  have l0 : wa.heap.size < W0.heap.size := blkLt k1
  have l1 : wa.heap.size + 1 < W0.heap.size := blkLt k2
  clear k1 k2
  refine wp_region_held_drew (S := fun W' => Below W0.heap.size W0 W') (by kernel_rfl) (below_drew _) (fun hH => ?_)
  refine wpAnyH_take (i := 0) (v := .pointer (some ⟨wa.heap.size, 2, none⟩)) rfl (by kernel_rfl) (by kernel_rfl) (by kernel_rfl) (fun _ _ _ h => h) (Or.inl ⟨by rfl, fun w hSw => by go_simp⟩) hH ?_
  refine wpAnyH_take (i := 1) (v := .int .i64 x2) rfl (by kernel_rfl) (by kernel_rfl) (by kernel_rfl) (fun _ _ _ h => h) (Or.inl ⟨by rfl, fun w hSw => by have f := (hSw.cell (p := ⟨wa.heap.size, 2, none⟩) l0).trans c2; go_simp⟩) hH ?_
  try simp only [Act.put, List.setIfInBounds_toArray, List.set_cons_zero, List.set_cons_succ, List.getElem_toArray, List.getElem_cons_succ, List.getElem_cons_zero]
  refine wpAnyH_take (i := 2) (v := .pointer (some ⟨wa.heap.size + 1, 2, none⟩)) rfl (by kernel_rfl) (by kernel_rfl) (by kernel_rfl) (fun _ _ _ h => h) (Or.inl ⟨by rfl, fun w hSw => by go_simp⟩) hH ?_
  try simp only [Act.put, List.setIfInBounds_toArray, List.set_cons_zero, List.set_cons_succ, List.getElem_toArray, List.getElem_cons_succ, List.getElem_cons_zero]
  refine wpAnyH_take (i := 3) (v := .int .i64 y2) rfl (by kernel_rfl) (by kernel_rfl) (by kernel_rfl) (fun _ _ _ h => h) (Or.inl ⟨by rfl, fun w hSw => by have f := (hSw.cell (p := ⟨wa.heap.size + 1, 2, none⟩) l1).trans d2; go_simp⟩) hH ?_
  try simp only [Act.put, List.setIfInBounds_toArray, List.set_cons_zero, List.set_cons_succ, List.getElem_toArray, List.getElem_cons_succ, List.getElem_cons_zero]
  refine wpAnyH_take (i := 5) (v := .pointer (some ⟨wa.heap.size, 0, none⟩)) rfl (by kernel_rfl) (by kernel_rfl) (by kernel_rfl) (fun _ _ _ h => h) (Or.inl ⟨by rfl, fun w hSw => by go_simp⟩) hH ?_
  try simp only [Act.put, List.setIfInBounds_toArray, List.set_cons_zero, List.set_cons_succ, List.getElem_toArray, List.getElem_cons_succ, List.getElem_cons_zero]
  refine wpAnyH_take (i := 6) (v := .int .i64 x0) rfl (by kernel_rfl) (by kernel_rfl) (by kernel_rfl) (fun _ _ _ h => h) (Or.inl ⟨by rfl, fun w hSw => by have f := (hSw.cell (p := ⟨wa.heap.size, 0, none⟩) l0).trans c0; go_simp⟩) hH ?_
  try simp only [Act.put, List.setIfInBounds_toArray, List.set_cons_zero, List.set_cons_succ, List.getElem_toArray, List.getElem_cons_succ, List.getElem_cons_zero]
  refine wpAnyH_take (i := 7) (v := .pointer (some ⟨wa.heap.size + 1, 0, none⟩)) rfl (by kernel_rfl) (by kernel_rfl) (by kernel_rfl) (fun _ _ _ h => h) (Or.inl ⟨by rfl, fun w hSw => by go_simp⟩) hH ?_
  try simp only [Act.put, List.setIfInBounds_toArray, List.set_cons_zero, List.set_cons_succ, List.getElem_toArray, List.getElem_cons_succ, List.getElem_cons_zero]
  refine wpAnyH_take (i := 8) (v := .int .i64 y0) rfl (by kernel_rfl) (by kernel_rfl) (by kernel_rfl) (fun _ _ _ h => h) (Or.inl ⟨by rfl, fun w hSw => by have f := (hSw.cell (p := ⟨wa.heap.size + 1, 0, none⟩) l1).trans d0; go_simp⟩) hH ?_
  try simp only [Act.put, List.setIfInBounds_toArray, List.set_cons_zero, List.set_cons_succ, List.getElem_toArray, List.getElem_cons_succ, List.getElem_cons_zero]
  refine wpAnyH_take (i := 10) (v := .pointer (some ⟨wa.heap.size, 1, none⟩)) rfl (by kernel_rfl) (by kernel_rfl) (by kernel_rfl) (fun _ _ _ h => h) (Or.inl ⟨by rfl, fun w hSw => by go_simp⟩) hH ?_
  try simp only [Act.put, List.setIfInBounds_toArray, List.set_cons_zero, List.set_cons_succ, List.getElem_toArray, List.getElem_cons_succ, List.getElem_cons_zero]
  refine wpAnyH_take (i := 11) (v := .int .i64 x1) rfl (by kernel_rfl) (by kernel_rfl) (by kernel_rfl) (fun _ _ _ h => h) (Or.inl ⟨by rfl, fun w hSw => by have f := (hSw.cell (p := ⟨wa.heap.size, 1, none⟩) l0).trans c1; go_simp⟩) hH ?_
  try simp only [Act.put, List.setIfInBounds_toArray, List.set_cons_zero, List.set_cons_succ, List.getElem_toArray, List.getElem_cons_succ, List.getElem_cons_zero]
  refine wpAnyH_take (i := 12) (v := .pointer (some ⟨wa.heap.size + 1, 1, none⟩)) rfl (by kernel_rfl) (by kernel_rfl) (by kernel_rfl) (fun _ _ _ h => h) (Or.inl ⟨by rfl, fun w hSw => by go_simp⟩) hH ?_
  try simp only [Act.put, List.setIfInBounds_toArray, List.set_cons_zero, List.set_cons_succ, List.getElem_toArray, List.getElem_cons_succ, List.getElem_cons_zero]
  refine wpAnyH_take (i := 13) (v := .int .i64 y1) rfl (by kernel_rfl) (by kernel_rfl) (by kernel_rfl) (fun _ _ _ h => h) (Or.inl ⟨by rfl, fun w hSw => by have f := (hSw.cell (p := ⟨wa.heap.size + 1, 1, none⟩) l1).trans d1; go_simp⟩) hH ?_
  try simp only [Act.put, List.setIfInBounds_toArray, List.set_cons_zero, List.set_cons_succ, List.getElem_toArray, List.getElem_cons_succ, List.getElem_cons_zero]
  refine wpAnyH_ready (rs := [4]) (by kernel_rfl) (by simp) ?_
  refine AllReadyH.cons rfl (fun K hK => ?_) AllReadyH.nil
  go_simp
  go_at_call 58
  refine (evCompare_any _ _ _).mono ?_
  rintro e w1 ⟨rfl, hw1⟩
  rw [hw1]
  clear hw1 w1
  refine hK.out _ _ hH (fun _ => ?_)
  clear hK K
  try simp only [Act.put, List.setIfInBounds_toArray, List.set_cons_zero, List.set_cons_succ, List.getElem_toArray, List.getElem_cons_succ, List.getElem_cons_zero]
  refine wpAnyH_ready (rs := [9]) (by kernel_rfl) (by simp) ?_
  refine AllReadyH.cons rfl (fun K hK => ?_) AllReadyH.nil
  go_simp
  go_at_call 58
  refine (evCompare_any _ _ _).mono ?_
  rintro e w1 ⟨rfl, hw1⟩
  rw [hw1]
  clear hw1 w1
  refine hK.out _ _ hH (fun _ => ?_)
  clear hK K
  try simp only [Act.put, List.setIfInBounds_toArray, List.set_cons_zero, List.set_cons_succ, List.getElem_toArray, List.getElem_cons_succ, List.getElem_cons_zero]
  refine wpAnyH_ready (rs := [14]) (by kernel_rfl) (by simp) ?_
  refine AllReadyH.cons rfl (fun K hK => ?_) AllReadyH.nil
  go_simp
  go_at_call 58
  refine (evCompare_any _ _ _).mono ?_
  rintro e w1 ⟨rfl, hw1⟩
  rw [hw1]
  clear hw1 w1
  refine hK.out _ _ hH (fun _ => ?_)
  clear hK K
  try simp only [Act.put, List.setIfInBounds_toArray, List.set_cons_zero, List.set_cons_succ, List.getElem_toArray, List.getElem_cons_succ, List.getElem_cons_zero]
  refine wpAnyH_ready (rs := [15]) (by kernel_rfl) (by simp) ?_
  refine AllReadyH.cons rfl (fun K hK => ?_) AllReadyH.nil
  go_simp
  have hH2 := chain hH (below_alloc _ (.cells #[.int .i64 (cmpE x2 y2), .int .i64 (cmpE x0 y0), .int .i64 (cmpE x1 y1)] 3))
  refine hK.out _ _ hH2 (fun _ => ?_)
  clear hK K
  try simp only [Act.put, List.setIfInBounds_toArray, List.set_cons_zero, List.set_cons_succ, List.getElem_toArray, List.getElem_cons_succ, List.getElem_cons_zero]
  refine wpAnyH_ready (rs := [16]) (by kernel_rfl) (by simp) ?_
  refine AllReadyH.cons rfl (fun K hK => ?_) AllReadyH.nil
  go_simp
  go_at_call 57
  refine (evOr_any _ (cmpE x2 y2) (cmpE x0 y0) (cmpE x1 y1) _ ?_ ?_ ?_).mono ?_
  · exact blkCell (heapNew _ _) 0 _ rfl
  · exact blkCell (heapNew _ _) 1 _ rfl
  · exact blkCell (heapNew _ _) 2 _ rfl
  rintro e w1 ⟨rfl, hw1⟩
  rw [hw1]
  clear hw1 w1
  refine hK.out _ _ hH2 (fun _ => ?_)
  clear hK K
  try simp only [Act.put, List.setIfInBounds_toArray, List.set_cons_zero, List.set_cons_succ, List.getElem_toArray, List.getElem_cons_succ, List.getElem_cons_zero]
  refine wpAnyH_take (i := 17) (v := .int .i64 (orE (cmpE x2 y2) (cmpE x0 y0) (cmpE x1 y1))) rfl (by kernel_rfl) (by kernel_rfl) (by kernel_rfl) (fun _ _ _ h => h) (Or.inl ⟨by rfl, fun w hSw => by go_simp⟩) hH2 ?_
  try simp only [Act.put, List.setIfInBounds_toArray, List.set_cons_zero, List.set_cons_succ, List.getElem_toArray, List.getElem_cons_succ, List.getElem_cons_zero]
  refine wpAnyH_done (by kernel_rfl) ?_ _
  have HB2 : Hid (Below wa.heap.size wa _) := chain HB.out hH2
  clear hH hH2
  go_wp2
  go_ret
  exact ⟨rfl, HB2.out⟩
/-! ### The specification's -/
set_option maxHeartbeats 4000000 in
theorem evSRight_any (sh sq tm kd : Int) (cd : ByteArray) (am : Int) (hc : cd.size ≤ 2000000) (w : World) :
    Calls Try.prog 28 #[.agg #[.int .i64 sh, .int .i64 sq, .int .i64 tm, .int .i64 kd, .string cd, .int .i64 am]] w fun e w' => e = .returned (.bool (evOne ⟨sh, sq, tm, kd, cd, am⟩)) ∧ Below w.heap.size w w' := by
  have S1 : Hid (∀ W, Calls Try.prog 52 #[.int .i64 sh, .int .i64 1, .int .i64 9] W fun e w' => e = .returned (.bool (inB sh 1 9)) ∧ w' = W) := fun W => in_any sh 1 9 W
  have S2 : Hid (∀ W, Calls Try.prog 52 #[.int .i64 sq, .int .i64 1, .int .i64 120] W fun e w' => e = .returned (.bool (inB sq 1 120)) ∧ w' = W) := fun W => in_any sq 1 120 W
  have S3 : Hid (∀ W, Calls Try.prog 52 #[.int .i64 tm, .int .i64 0, .int .i64 1000000000] W fun e w' => e = .returned (.bool (inB tm 0 1000000000)) ∧ w' = W) := fun W => in_any tm 0 1000000000 W
  have S4 : Hid (∀ W, Calls Try.prog 53 #[.string cd] W fun e w' => e = .returned (.bool (nameB cd)) ∧ w' = W) := fun W => specName_any cd (by unfold maxLen; omega) W
  have S5 : Hid (∀ W, Calls Try.prog 52 #[.int .i64 am, .int .i64 1, .int .i64 1000000] W fun e w' => e = .returned (.bool (inB am 1 1000000)) ∧ w' = W) := fun W => in_any am 1 1000000 W
  have e0 : evOne ⟨sh, sq, tm, kd, cd, am⟩ = (inB sh 1 9 && (inB sq 1 120 && (inB tm 0 1000000000 && (nameB cd && evAmt kd am)))) := rfl
  rw [e0]
  clear e0
  generalize inB sh 1 9 = b1 at *
  generalize inB sq 1 120 = b2 at *
  generalize inB tm 0 1000000000 = b3 at *
  generalize nameB cd = b4 at *
  have HB0 : Hid (∀ o, Below w.heap.size w (w.alloc o)) := fun o => below_alloc w o
  have go1 : ∀ (b5 : Bool), b5 = evAmt kd am → Calls Try.prog 28 #[.agg #[.int .i64 sh, .int .i64 sq, .int .i64 tm, .int .i64 kd, .string cd, .int .i64 am]] w fun e w' => e = .returned (.bool (b1 && (b2 && (b3 && (b4 && b5))))) ∧ Below w.heap.size w w' := by
    intro b5 h5
    have H5 : Hid (b5 = evAmt kd am) := h5
    clear h5
    go_enter Try.func28, Try.ntmps28
    go_wp2_with fail
    go_at_call 52
    refine (S1.out _).mono ?_
    rintro e w1 ⟨rfl, h⟩
    rw [h]
    clear h w1 S1
    cases b1
    · go_wp2
      go_ret
      exact ⟨rfl, HB0.out _⟩
    go_wp2_with fail
    go_at_call 52
    refine (S2.out _).mono ?_
    rintro e w1 ⟨rfl, h⟩
    rw [h]
    clear h w1 S2
    cases b2
    · go_wp2
      go_ret
      exact ⟨rfl, HB0.out _⟩
    go_wp2_with fail
    go_at_call 52
    refine (S3.out _).mono ?_
    rintro e w1 ⟨rfl, h⟩
    rw [h]
    clear h w1 S3
    cases b3
    · go_wp2
      go_ret
      exact ⟨rfl, HB0.out _⟩
    go_wp2_with fail
    go_at_call 53
    refine (S4.out _).mono ?_
    rintro e w1 ⟨rfl, h⟩
    rw [h]
    clear h w1 S4
    cases b4
    · go_wp2
      go_ret
      exact ⟨rfl, HB0.out _⟩
    rcases (by omega : kd = 1 ∨ kd = 2 ∨ kd = 3 ∨ (¬ kd = 1 ∧ ¬ kd = 2 ∧ ¬ kd = 3)) with h1 | h1 | h1 | ⟨h1, h2, h3⟩
    · have H6 : Hid (b5 = inB am 1 1000000) := by have := H5.out; rw [h1] at this; exact this.trans (by unfold evAmt; rw [if_neg (by decide), decide_eq_true (by omega), Bool.true_and])
      have hk1 : (kd == 3) = false := by rw [h1]; rfl
      have hk2 : (kd == 1) = true := by rw [h1]; rfl
      clear H5 h1
      go_wp2_with fail
      go_at_call 52
      refine (S5.out _).mono ?_
      rintro e w1 ⟨rfl, h⟩
      rw [h]
      clear h w1 S5
      go_wp2
      go_ret
      exact ⟨ret_bool (by rw [H6.out]; rfl), HB0.out _⟩
    · have H6 : Hid (b5 = inB am 1 1000000) := by have := H5.out; rw [h1] at this; exact this.trans (by unfold evAmt; rw [if_neg (by decide), decide_eq_true (by omega), Bool.true_and])
      have hk1 : (kd == 3) = false := by rw [h1]; rfl
      have hk2 : (kd == 1) = false := by rw [h1]; rfl
      have hk3 : (kd == 2) = true := by rw [h1]; rfl
      clear H5 h1
      go_wp2_with fail
      go_at_call 52
      refine (S5.out _).mono ?_
      rintro e w1 ⟨rfl, h⟩
      rw [h]
      clear h w1 S5
      go_wp2
      go_ret
      exact ⟨ret_bool (by rw [H6.out]; rfl), HB0.out _⟩
    · have H6 : Hid (b5 = decide (am = 0)) := by have := H5.out; rw [h1] at this; exact this.trans (by unfold evAmt; rw [if_pos rfl])
      have hk1 : (kd == 3) = true := by rw [h1]; rfl
      clear H5 h1
      go_wp2
      go_ret
      exact ⟨ret_bool (by rw [H6.out]; first | rfl | simp), HB0.out _⟩
    · have H6 : Hid (b5 = false) := by have := H5.out; exact this.trans (by unfold evAmt; rw [if_neg h3, decide_eq_false (by omega), Bool.false_and])
      have hk1 : (kd == 3) = false := by simpa using h3
      have hk2 : (kd == 1) = false := by simpa using h1
      have hk3 : (kd == 2) = false := by simpa using h2
      clear H5 h1 h2 h3
      go_wp2
      go_ret
      exact ⟨ret_bool (by rw [H6.out]; rfl), HB0.out _⟩
  exact go1 _ rfl
set_option maxHeartbeats 4000000 in
theorem evSAhead_any (x0 x1 x2 x3 : Int) (x4 : ByteArray) (x5 : Int) (y0 y1 y2 y3 : Int) (y4 : ByteArray) (y5 : Int) (w : World) :
    Calls Try.prog 29 #[.agg #[.int .i64 x0, .int .i64 x1, .int .i64 x2, .int .i64 x3, .string x4, .int .i64 x5], .agg #[.int .i64 y0, .int .i64 y1, .int .i64 y2, .int .i64 y3, .string y4, .int .i64 y5]] w fun e w' => e = .returned (.bool (evAh ⟨x0, x1, x2, x3, x4, x5⟩ ⟨y0, y1, y2, y3, y4, y5⟩)) ∧ Below w.heap.size w w' := by
  have e0 : evAh ⟨x0, x1, x2, x3, x4, x5⟩ ⟨y0, y1, y2, y3, y4, y5⟩ = (if x2 = y2 then (if x0 = y0 then decide (x1 < y1) else decide (x0 < y0)) else decide (x2 < y2)) := rfl
  have HB0 : Hid (∀ o o', Below w.heap.size w ((w.alloc o).alloc o')) := fun o o' => chain (below_alloc w o) (below_alloc _ _)
  rw [e0]
  clear e0
  by_cases h1 : x2 = y2
  · rw [if_pos h1]
    have hb1 : (x2 == y2) = true := by simpa using h1
    clear h1
    by_cases h2 : x0 = y0
    · rw [if_pos h2]
      have hb2 : (x0 == y0) = true := by simpa using h2
      clear h2
      go_enter Try.func29, Try.ntmps29
      go_wp2
      go_ret
      exact ⟨rfl, HB0.out _ _⟩
    · rw [if_neg h2]
      have hb2 : (x0 == y0) = false := by simpa using h2
      clear h2
      go_enter Try.func29, Try.ntmps29
      go_wp2
      go_ret
      exact ⟨rfl, HB0.out _ _⟩
  · rw [if_neg h1]
    have hb1 : (x2 == y2) = false := by simpa using h1
    clear h1
    go_enter Try.func29, Try.ntmps29
    go_wp2
    go_ret
    exact ⟨rfl, HB0.out _ _⟩
end Go.Proofs.Ytabghjlmmpckdaa
