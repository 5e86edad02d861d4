/-
  The laws' own helpers on lists of Stop: sz.., to...
-/
import Derived.Test.YtoogphkojofkfaaHpA
namespace Go.Proofs.Ytoogphkojofkfaa
open Go.ChangeShapes Go.WideShapes Go.ChangeAt Go.RowKit Go.Deep
set_option linter.unusedVariables false

theorem szHps_any (a : Option Addr) (cap : Nat) (rs : List RHp) (hl : rs.length ≤ maxLen) (x0 : Int) (hx0 : 0 ≤ x0) (hx1 : x0 ≤ 1048576) (w : World) :
    Calls Try.prog 12 #[.slice a rs.length cap, .int .i64 x0] w fun e w' => (∃ y : Int, e = .returned (.int .i64 y) ∧ (y < 0 ∨ (0 ≤ y ∧ y + (rs.length : Int) ≤ x0))) ∧ w' = w := by
  unfold maxLen at hl
  have hwr : IntKind.i64.wrap (x0 - (rs.length : Int)) = x0 - (rs.length : Int) := wrap_id _ (by omega) (by omega)
  by_cases h : x0 - (rs.length : Int) < 0
  · go_enter Try.func12, Try.ntmps12
    go_wp2
    go_ret
    exact ⟨⟨-1, rfl, .inl (by omega)⟩, rfl⟩
  · have h' : 0 ≤ x0 - (rs.length : Int) := by omega
    go_enter Try.func12, Try.ntmps12
    go_wp2
    go_ret
    exact ⟨⟨_, rfl, .inr ⟨h', by omega⟩⟩, rfl⟩

/-! ### toStopS -/
theorem toHp_any (r0 : Int) (r1 : Int) (r2 : Int) (r3 : Int) (r4 : Int) (w : World) :
    Calls Try.prog 36 #[.agg #[.int .i64 r0, .int .i64 r1, .int .i64 r2, .int .i64 r3, .int .i64 r4]] w fun e w' => e = .returned (.agg #[.int .i64 r0, .int .i64 r1, .int .i64 r2, .int .i64 r3, .int .i64 r4]) ∧ Below w.heap.size w w' := by
  have l1 : ∀ n : Nat, n < n + 1 + 1 := fun n => by omega
  have l2 : ∀ n : Nat, n < n + 2 := fun n => by omega
  have l3 : ∀ n : Nat, n < n + 3 := fun n => by omega
  have l4 : ∀ n : Nat, n + 1 < n + 3 := fun n => by omega
  have l5 : ∀ n : Nat, n + 2 < n + 3 := fun n => by omega
  go_enter Try.func36, Try.ntmps36
  go_wp2
  refine bodyPost_ret (v := .agg #[.int .i64 r0, .int .i64 r1, .int .i64 r2, .int .i64 r3, .int .i64 r4]) (by simp [results, Try.results36, go_sem]) rfl ⟨rfl, ?_⟩
  repeat (first | exact Below.refl _ _ | refine chain ?_ (below_alloc _ _) | refine Below.setCell ?_ (by dsimp only; omega) _)
def hpCell (r : RHp) (j : Nat) : Value := if j = 0 then .int .i64 r.x else if j = 1 then .int .i64 r.y else if j = 2 then .int .i64 r.fr else if j = 3 then .int .i64 r.to else .int .i64 r.sy
theorem hpInfo : (Try.prog.info? 37).map (fun i => (i.zero, i.size, i.bytes)) = some (some (.agg #[.int .i64 0, .int .i64 0, .int .i64 0, .int .i64 0, .int .i64 0]), 5, 40) := by kernel_rfl
theorem makeHps (n : Nat) (hn : n ≤ 100000000) (w : World) :
    (Instr.makeSlice 23 (.int .i64 (n : Int)) (.int .i64 (n : Int))).run Try.prog w = .ok (.slice (some ⟨w.heap.size, 0, none⟩) n n) (w.alloc (.cells (madeCells #[.int .i64 0, .int .i64 0, .int .i64 0, .int .i64 0, .int .i64 0] (n * 5)) 37)) := by
  obtain ⟨i, hi, hzz⟩ := Option.map_eq_some_iff.1 hpInfo
  simp only [Prod.mk.injEq] at hzz
  obtain ⟨hz, hs, hb⟩ := hzz
  have hr := run_make (P := Try.prog) w 23 37 i _ Try.underlying23 hi hz .i64 .i64 (n : Int) (n : Int) (by omega) (Int.le_refl _) (by rw [hb]; omega) (by omega)
  simp only [Int.toNat_natCast, hs] at hr
  exact hr
theorem hps_made (w : World) (n : Nat) : (w.alloc (.cells (madeCells #[.int .i64 0, .int .i64 0, .int .i64 0, .int .i64 0, .int .i64 0] (n * 5)) 37)).rowIs w.heap.size 37 (n * 5) (fun j => hpCell zHp (j % 5)) := by
  refine ⟨_, heapNew _ _, size_madeCells _ _, fun i hi => ?_⟩
  have h6 : i % 5 = 0 ∨ i % 5 = 1 ∨ i % 5 = 2 ∨ i % 5 = 3 ∨ i % 5 = 4 := by omega
  unfold hpCell zHp
  rcases h6 with h | h | h | h | h <;> simp [madeCells, hi, h] <;> rfl
def hpFill (rs : List RHp) (k j : Nat) : Value := hpCell (if j / 5 < k then rs.getD (j / 5) zHp else zHp) (j % 5)
theorem hpFill_set {w : World} {b : Nat} {rs : List RHp} {n k : Nat} (h : w.rowIs b 37 (n * 5) (hpFill rs k)) :
    (((((w.setCell ⟨b, k * 5, none⟩ (.int .i64 (rs.getD k zHp).x)).setCell ⟨b, k * 5 + 1, none⟩ (.int .i64 (rs.getD k zHp).y)).setCell ⟨b, k * 5 + 2, none⟩ (.int .i64 (rs.getD k zHp).fr)).setCell ⟨b, k * 5 + 3, none⟩ (.int .i64 (rs.getD k zHp).to)).setCell ⟨b, k * 5 + 4, none⟩ (.int .i64 (rs.getD k zHp).sy)).rowIs b 37 (n * 5) (hpFill rs (k + 1)) := by
  refine (((((h.set (k * 5) _).set (k * 5 + 1) _).set (k * 5 + 2) _).set (k * 5 + 3) _).set (k * 5 + 4) _).congr fun j hj => ?_
  unfold hpFill
  by_cases e4 : j = k * 5 + 4
  · rw [if_pos e4, if_pos (by omega), show j / 5 = k by omega, show j % 5 = 4 by omega]; rfl
  rw [if_neg e4]
  by_cases e3 : j = k * 5 + 3
  · rw [if_pos e3, if_pos (by omega), show j / 5 = k by omega, show j % 5 = 3 by omega]; rfl
  rw [if_neg e3]
  by_cases e2 : j = k * 5 + 2
  · rw [if_pos e2, if_pos (by omega), show j / 5 = k by omega, show j % 5 = 2 by omega]; rfl
  rw [if_neg e2]
  by_cases e1 : j = k * 5 + 1
  · rw [if_pos e1, if_pos (by omega), show j / 5 = k by omega, show j % 5 = 1 by omega]; rfl
  rw [if_neg e1]
  by_cases e0 : j = k * 5
  · rw [if_pos e0, if_pos (by omega), show j / 5 = k by omega, show j % 5 = 0 by omega]; rfl
  rw [if_neg e0]
  by_cases h : j / 5 < k
  · rw [if_pos h, if_pos (by omega)]
  · rw [if_neg h, if_neg (by omega)]
def FreeHp (w : World) (b n : Nat) : Prop := ∀ j, j < n * 5 → w.frozen? ⟨b, j, none⟩ = false
theorem FreeHp.below {B : Nat} {w w' : World} {b n : Nat} (h : FreeHp w b n) (hb : Below B w w') (hB : b < B) : FreeHp w' b n := fun j hj => (hb.frozen (p := ⟨b, j, none⟩) hB).trans (h j hj)
theorem hpsAt_of {w : World} {b : Nat} {rs : List RHp} (h : w.rowIs b 37 (rs.length * 5) (hpFill rs rs.length)) : HpsAt w b 0 rs := fun i hi => by
  refine ⟨?_, ?_, ?_, ?_, ?_⟩
  · rw [h.cell (i := 0 + i * 5) (by omega)]; unfold hpFill; rw [if_pos (by omega), show (0 + i * 5) / 5 = i by omega, show (0 + i * 5) % 5 = 0 by omega]; rfl
  · rw [h.cell (i := 0 + i * 5 + 1) (by omega)]; unfold hpFill; rw [if_pos (by omega), show (0 + i * 5 + 1) / 5 = i by omega, show (0 + i * 5 + 1) % 5 = 1 by omega]; rfl
  · rw [h.cell (i := 0 + i * 5 + 2) (by omega)]; unfold hpFill; rw [if_pos (by omega), show (0 + i * 5 + 2) / 5 = i by omega, show (0 + i * 5 + 2) % 5 = 2 by omega]; rfl
  · rw [h.cell (i := 0 + i * 5 + 3) (by omega)]; unfold hpFill; rw [if_pos (by omega), show (0 + i * 5 + 3) / 5 = i by omega, show (0 + i * 5 + 3) % 5 = 3 by omega]; rfl
  · rw [h.cell (i := 0 + i * 5 + 4) (by omega)]; unfold hpFill; rw [if_pos (by omega), show (0 + i * 5 + 4) / 5 = i by omega, show (0 + i * 5 + 4) % 5 = 4 by omega]; rfl

set_option maxHeartbeats 2000000 in
theorem toHps_any (a : Option Addr) (cap : Nat) (rs : List RHp) (hn : rs.length ≤ 1048576) (w : World) (hr : ReadsHp w.heap.size w a rs) :
    Calls Try.prog 13 #[.slice a rs.length cap] w fun e w' => e = .returned (.slice (some ⟨w.heap.size, 0, none⟩) rs.length rs.length) ∧ Below w.heap.size w w' ∧ w.heap.size < w'.heap.size ∧ HpsAt w' w.heap.size 0 rs ∧ FreeHp w' w.heap.size rs.length := by
  have hmk := fun w => makeHps rs.length (by omega) w
  have HM : Hid ((w.alloc (.cells (madeCells #[.int .i64 0, .int .i64 0, .int .i64 0, .int .i64 0, .int .i64 0] (rs.length * 5)) 37)).rowIs w.heap.size 37 (rs.length * 5) (fun j => hpCell zHp (j % 5))) := hps_made w rs.length
  have HR : Hid (ReadsHp w.heap.size w a rs) := hr
  clear hr
  go_enter Try.func13, Try.ntmps13
  go_wp2
  go_loopw [4] (fun i wr => ∃ k : Nat, k ≤ rs.length ∧ i = .int .i64 (k : Int) ∧ Below w.heap.size w wr ∧ wr.rowIs w.heap.size 37 (rs.length * 5) (hpFill rs k)) (fun i _ => rs.length - (intOf i).toNat)
  case atStart => exact ⟨0, Nat.zero_le _, rfl, below_alloc _ _, HM.out.congr (fun i hi => by unfold hpFill; rw [if_neg (by omega)])⟩
  case round =>
    obtain ⟨k, hk, rfl, hb, hrow⟩ := hrel
    have HB : Hid (Below w.heap.size w wr) := hb
    have HW : Hid (wr.rowIs w.heap.size 37 (rs.length * 5) (hpFill rs k)) := hrow
    clear hb hrow
    by_cases hlt : k < rs.length
    · have hlt' : (k : Int) < (rs.length : Int) := by omega
      rcases HR.out with h | ⟨b0, o0, ha, hB0, ia⟩
      · rw [h] at hlt; simp at hlt
      obtain ⟨c0, c1, c2, c3, c4⟩ := (ia.below HB.out hB0) k hlt
      have HN : Hid (∀ w2, Below wr.heap.size wr w2 → (((((w2.setCell ⟨w.heap.size, k * 5, none⟩ (.int .i64 (rs.getD k zHp).x)).setCell ⟨w.heap.size, k * 5 + 1, none⟩ (.int .i64 (rs.getD k zHp).y)).setCell ⟨w.heap.size, k * 5 + 2, none⟩ (.int .i64 (rs.getD k zHp).fr)).setCell ⟨w.heap.size, k * 5 + 3, none⟩ (.int .i64 (rs.getD k zHp).to)).setCell ⟨w.heap.size, k * 5 + 4, none⟩ (.int .i64 (rs.getD k zHp).sy)).rowIs w.heap.size 37 (rs.length * 5) (hpFill rs (k + 1)) ∧ Below w.heap.size w (((((w2.setCell ⟨w.heap.size, k * 5, none⟩ (.int .i64 (rs.getD k zHp).x)).setCell ⟨w.heap.size, k * 5 + 1, none⟩ (.int .i64 (rs.getD k zHp).y)).setCell ⟨w.heap.size, k * 5 + 2, none⟩ (.int .i64 (rs.getD k zHp).fr)).setCell ⟨w.heap.size, k * 5 + 3, none⟩ (.int .i64 (rs.getD k zHp).to)).setCell ⟨w.heap.size, k * 5 + 4, none⟩ (.int .i64 (rs.getD k zHp).sy)) ∧ (∀ j, j < 5 → (w2.cell? ⟨w.heap.size, k * 5 + j, none⟩).isSome = true) ∧ (∀ j, w2.frozen? ⟨w.heap.size, j, none⟩ = false)) := fun w2 hb2 => by
        have hw2 := HW.out.of_block (hb2.block _ HW.out.lt)
        refine ⟨hpFill_set hw2, ((((((HB.out.trans (hb2.mono HB.out.size)).setCell (Nat.le_refl _) _).setCell (Nat.le_refl _) _).setCell (Nat.le_refl _) _).setCell (Nat.le_refl _) _).setCell (Nat.le_refl _) _), fun j hj => ?_, fun j => hw2.frozen j⟩
        rw [hw2.cell (by omega)]; rfl
      rw [ha]
      clear ia
      generalize rs.getD k zHp = r at *
      obtain ⟨r0, r1, r2, r3, r4⟩ := r
      dsimp only at c0 c1 c2 c3 c4 HN
      go_wp2_with (go_at_call 36; refine (toHp_any _ _ _ _ _ _).mono ?_; rintro e w2 ⟨rfl, hb2⟩; obtain ⟨n1, n2, n3, n4⟩ := HN.out w2 hb2; have N1 : Hid (_) := n1; have N2 : Hid (_) := n2; obtain ⟨v0, hv0⟩ := Option.isSome_iff_exists.mp (n3 0 (by omega)); obtain ⟨v1, hv1⟩ := Option.isSome_iff_exists.mp (n3 1 (by omega)); obtain ⟨v2, hv2⟩ := Option.isSome_iff_exists.mp (n3 2 (by omega)); obtain ⟨v3, hv3⟩ := Option.isSome_iff_exists.mp (n3 3 (by omega)); obtain ⟨v4, hv4⟩ := Option.isSome_iff_exists.mp (n3 4 (by omega)); rw [Nat.add_zero] at hv0; clear n1 n2 n3)
      go_roundw
      case rel => exact ⟨k + 1, by omega, by go_num, N2.out, N1.out⟩
      case measure => simp [intOf]; omega
    · obtain rfl : k = rs.length := by omega
      go_wp2
      go_ret
      exact ⟨rfl, HB.out, HW.out.lt, hpsAt_of HW.out, fun j hj => HW.out.frozen j⟩
end Go.Proofs.Ytoogphkojofkfaa
