/-
  The laws' own helpers on lists of Power: sz.., to...
-/
import Derived.Test.YtillkllkekhmfabPwA
namespace Go.Proofs.Ytillkllkekhmfab
open Go.ChangeShapes Go.WideShapes Go.ChangeAt Go.RowKit Go.Deep
set_option linter.unusedVariables false
attribute [local go_sem] run_store_float

theorem szPws_any (a : Option Addr) (cap : Nat) (rs : List RPw) (hl : rs.length ≤ maxLen) (x0 : Int) (hx0 : 0 ≤ x0) (hx1 : x0 ≤ 1048576) (w : World) :
    Calls Try.prog 5 #[.slice a rs.length cap, .int .i64 x0] w fun e w' => (∃ y : Int, e = .returned (.int .i64 y) ∧ (y < 0 ∨ (0 ≤ y ∧ y + (rs.length : Int) ≤ x0))) ∧ w' = w := by
  unfold maxLen at hl
  have hwr : IntKind.i64.wrap (x0 - (rs.length : Int)) = x0 - (rs.length : Int) := wrap_id _ (by omega) (by omega)
  by_cases h : x0 - (rs.length : Int) < 0
  · go_enter Try.func5, Try.ntmps5
    go_wp2
    go_ret
    exact ⟨⟨-1, rfl, .inl (by omega)⟩, rfl⟩
  · have h' : 0 ≤ x0 - (rs.length : Int) := by omega
    go_enter Try.func5, Try.ntmps5
    go_wp2
    go_ret
    exact ⟨⟨_, rfl, .inr ⟨h', by omega⟩⟩, rfl⟩

/-! ### toPowerS -/
theorem toPw_any (r0 : Nat) (r1 : Nat) (w : World) :
    Calls Try.prog 15 #[.agg #[.float .f64 r0, .float .f64 r1]] w fun e w' => e = .returned (.agg #[.float .f64 r0, .float .f64 r1]) ∧ Below w.heap.size w w' := by
  have l1 : ∀ n : Nat, n < n + 1 + 1 := fun n => by omega
  have l2 : ∀ n : Nat, n < n + 2 := fun n => by omega
  have l3 : ∀ n : Nat, n < n + 3 := fun n => by omega
  have l4 : ∀ n : Nat, n + 1 < n + 3 := fun n => by omega
  have l5 : ∀ n : Nat, n + 2 < n + 3 := fun n => by omega
  go_enter Try.func15, Try.ntmps15
  go_wp2
  refine bodyPost_ret (v := .agg #[.float .f64 r0, .float .f64 r1]) (by simp [results, Try.results15, go_sem]) rfl ⟨rfl, ?_⟩
  repeat (first | exact Below.refl _ _ | refine chain ?_ (below_alloc _ _) | refine Below.setCell ?_ (by dsimp only; omega) _)
def pwCell (r : RPw) (j : Nat) : Value := if j = 0 then .float .f64 r.re else .float .f64 r.im
theorem pwInfo : (Try.prog.info? 26).map (fun i => (i.zero, i.size, i.bytes)) = some (some (.agg #[.float .f64 0, .float .f64 0]), 2, 16) := by kernel_rfl
theorem makePws (n : Nat) (hn : n ≤ 100000000) (w : World) :
    (Instr.makeSlice 29 (.int .i64 (n : Int)) (.int .i64 (n : Int))).run Try.prog w = .ok (.slice (some ⟨w.heap.size, 0, none⟩) n n) (w.alloc (.cells (madeCells #[.float .f64 0, .float .f64 0] (n * 2)) 26)) := by
  obtain ⟨i, hi, hzz⟩ := Option.map_eq_some_iff.1 pwInfo
  simp only [Prod.mk.injEq] at hzz
  obtain ⟨hz, hs, hb⟩ := hzz
  have hr := run_make (P := Try.prog) w 29 26 i _ Try.underlying29 hi hz .i64 .i64 (n : Int) (n : Int) (by omega) (Int.le_refl _) (by rw [hb]; omega) (by omega)
  simp only [Int.toNat_natCast, hs] at hr
  exact hr
theorem pws_made (w : World) (n : Nat) : (w.alloc (.cells (madeCells #[.float .f64 0, .float .f64 0] (n * 2)) 26)).rowIs w.heap.size 26 (n * 2) (fun j => pwCell zPw (j % 2)) := by
  refine ⟨_, heapNew _ _, size_madeCells _ _, fun i hi => ?_⟩
  have h6 : i % 2 = 0 ∨ i % 2 = 1 := by omega
  unfold pwCell zPw
  rcases h6 with h | h <;> simp [madeCells, hi, h] <;> rfl
def pwFill (rs : List RPw) (k j : Nat) : Value := pwCell (if j / 2 < k then rs.getD (j / 2) zPw else zPw) (j % 2)
theorem pwFill_set {w : World} {b : Nat} {rs : List RPw} {n k : Nat} (h : w.rowIs b 26 (n * 2) (pwFill rs k)) :
    ((w.setCell ⟨b, k * 2, none⟩ (.float .f64 (rs.getD k zPw).re)).setCell ⟨b, k * 2 + 1, none⟩ (.float .f64 (rs.getD k zPw).im)).rowIs b 26 (n * 2) (pwFill rs (k + 1)) := by
  refine ((h.set (k * 2) _).set (k * 2 + 1) _).congr fun j hj => ?_
  unfold pwFill
  by_cases e1 : j = k * 2 + 1
  · rw [if_pos e1, if_pos (by omega), show j / 2 = k by omega, show j % 2 = 1 by omega]; rfl
  rw [if_neg e1]
  by_cases e0 : j = k * 2
  · rw [if_pos e0, if_pos (by omega), show j / 2 = k by omega, show j % 2 = 0 by omega]; rfl
  rw [if_neg e0]
  by_cases h : j / 2 < k
  · rw [if_pos h, if_pos (by omega)]
  · rw [if_neg h, if_neg (by omega)]
def FreePw (w : World) (b n : Nat) : Prop := ∀ j, j < n * 2 → w.frozen? ⟨b, j, none⟩ = false
theorem FreePw.below {B : Nat} {w w' : World} {b n : Nat} (h : FreePw w b n) (hb : Below B w w') (hB : b < B) : FreePw w' b n := fun j hj => (hb.frozen (p := ⟨b, j, none⟩) hB).trans (h j hj)
theorem pwsAt_of {w : World} {b : Nat} {rs : List RPw} (h : w.rowIs b 26 (rs.length * 2) (pwFill rs rs.length)) : PwsAt w b 0 rs := fun i hi => by
  refine ⟨?_, ?_⟩
  · rw [h.cell (i := 0 + i * 2) (by omega)]; unfold pwFill; rw [if_pos (by omega), show (0 + i * 2) / 2 = i by omega, show (0 + i * 2) % 2 = 0 by omega]; rfl
  · rw [h.cell (i := 0 + i * 2 + 1) (by omega)]; unfold pwFill; rw [if_pos (by omega), show (0 + i * 2 + 1) / 2 = i by omega, show (0 + i * 2 + 1) % 2 = 1 by omega]; rfl

set_option maxHeartbeats 2000000 in
theorem toPws_any (a : Option Addr) (cap : Nat) (rs : List RPw) (hn : rs.length ≤ 1048576) (w : World) (hr : ReadsPw w.heap.size w a rs) :
    Calls Try.prog 7 #[.slice a rs.length cap] w fun e w' => e = .returned (.slice (some ⟨w.heap.size, 0, none⟩) rs.length rs.length) ∧ Below w.heap.size w w' ∧ w.heap.size < w'.heap.size ∧ PwsAt w' w.heap.size 0 rs ∧ FreePw w' w.heap.size rs.length := by
  have hmk := fun w => makePws rs.length (by omega) w
  have HM : Hid ((w.alloc (.cells (madeCells #[.float .f64 0, .float .f64 0] (rs.length * 2)) 26)).rowIs w.heap.size 26 (rs.length * 2) (fun j => pwCell zPw (j % 2))) := pws_made w rs.length
  have HR : Hid (ReadsPw w.heap.size w a rs) := hr
  clear hr
  go_enter Try.func7, Try.ntmps7
  go_wp2
  go_loopw [4] (fun i wr => ∃ k : Nat, k ≤ rs.length ∧ i = .int .i64 (k : Int) ∧ Below w.heap.size w wr ∧ wr.rowIs w.heap.size 26 (rs.length * 2) (pwFill rs k)) (fun i _ => rs.length - (intOf i).toNat)
  case atStart => exact ⟨0, Nat.zero_le _, rfl, below_alloc _ _, HM.out.congr (fun i hi => by unfold pwFill; rw [if_neg (by omega)])⟩
  case round =>
    obtain ⟨k, hk, rfl, hb, hrow⟩ := hrel
    have HB : Hid (Below w.heap.size w wr) := hb
    have HW : Hid (wr.rowIs w.heap.size 26 (rs.length * 2) (pwFill rs k)) := hrow
    clear hb hrow
    by_cases hlt : k < rs.length
    · have hlt' : (k : Int) < (rs.length : Int) := by omega
      rcases HR.out with h | ⟨b0, o0, ha, hB0, ia⟩
      · rw [h] at hlt; simp at hlt
      obtain ⟨c0, c1⟩ := (ia.below HB.out hB0) k hlt
      have HN : Hid (∀ w2, Below wr.heap.size wr w2 → ((w2.setCell ⟨w.heap.size, k * 2, none⟩ (.float .f64 (rs.getD k zPw).re)).setCell ⟨w.heap.size, k * 2 + 1, none⟩ (.float .f64 (rs.getD k zPw).im)).rowIs w.heap.size 26 (rs.length * 2) (pwFill rs (k + 1)) ∧ Below w.heap.size w ((w2.setCell ⟨w.heap.size, k * 2, none⟩ (.float .f64 (rs.getD k zPw).re)).setCell ⟨w.heap.size, k * 2 + 1, none⟩ (.float .f64 (rs.getD k zPw).im)) ∧ (∀ j, j < 2 → (w2.cell? ⟨w.heap.size, k * 2 + j, none⟩).isSome = true) ∧ (∀ j, w2.frozen? ⟨w.heap.size, j, none⟩ = false)) := fun w2 hb2 => by
        have hw2 := HW.out.of_block (hb2.block _ HW.out.lt)
        refine ⟨pwFill_set hw2, (((HB.out.trans (hb2.mono HB.out.size)).setCell (Nat.le_refl _) _).setCell (Nat.le_refl _) _), fun j hj => ?_, fun j => hw2.frozen j⟩
        rw [hw2.cell (by omega)]; rfl
      rw [ha]
      clear ia
      generalize rs.getD k zPw = r at *
      obtain ⟨r0, r1⟩ := r
      dsimp only at c0 c1 HN
      go_wp2_with (go_at_call 15; refine (toPw_any _ _ _).mono ?_; rintro e w2 ⟨rfl, hb2⟩; obtain ⟨n1, n2, n3, n4⟩ := HN.out w2 hb2; have N1 : Hid (_) := n1; have N2 : Hid (_) := n2; obtain ⟨v0, hv0⟩ := Option.isSome_iff_exists.mp (n3 0 (by omega)); obtain ⟨v1, hv1⟩ := Option.isSome_iff_exists.mp (n3 1 (by omega)); rw [Nat.add_zero] at hv0; clear n1 n2 n3)
      go_roundw
      case rel => exact ⟨k + 1, by omega, by go_num, N2.out, N1.out⟩
      case measure => simp [intOf]; omega
    · obtain rfl : k = rs.length := by omega
      go_wp2
      go_ret
      exact ⟨rfl, HB.out, HW.out.lt, pwsAt_of HW.out, fun j hj => HW.out.frozen j⟩
end Go.Proofs.Ytillkllkekhmfab
