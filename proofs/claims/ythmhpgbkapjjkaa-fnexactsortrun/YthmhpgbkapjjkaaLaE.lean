/-
  The laws' own helpers on lists of Lane: sz.., to...
-/
import Derived.Test.YthmhpgbkapjjkaaLaA
namespace Go.Proofs.Ythmhpgbkapjjkaa
open Go.ChangeShapes Go.WideShapes Go.ChangeAt Go.RowKit Go.Deep
set_option linter.unusedVariables false

theorem szLas_any (a : Option Addr) (cap : Nat) (rs : List RLa) (hl : rs.length ≤ maxLen) (x0 : Int) (hx0 : 0 ≤ x0) (hx1 : x0 ≤ 1048576) (w : World) :
    Calls Try.prog 22 #[.slice a rs.length cap, .int .i64 x0] w fun e w' => (∃ y : Int, e = .returned (.int .i64 y) ∧ (y < 0 ∨ (0 ≤ y ∧ y + (rs.length : Int) ≤ x0))) ∧ w' = w := by
  unfold maxLen at hl
  have hwr : IntKind.i64.wrap (x0 - (rs.length : Int)) = x0 - (rs.length : Int) := wrap_id _ (by omega) (by omega)
  by_cases h : x0 - (rs.length : Int) < 0
  · go_enter Try.func22, Try.ntmps22
    go_wp2
    go_ret
    exact ⟨⟨-1, rfl, .inl (by omega)⟩, rfl⟩
  · have h' : 0 ≤ x0 - (rs.length : Int) := by omega
    go_enter Try.func22, Try.ntmps22
    go_wp2
    go_ret
    exact ⟨⟨_, rfl, .inr ⟨h', by omega⟩⟩, rfl⟩

/-! ### toLaneS -/
theorem toLa_any (r0 : Int) (r1 : Int) (w : World) :
    Calls Try.prog 50 #[.agg #[.int .i64 r0, .int .i64 r1]] w fun e w' => e = .returned (.agg #[.int .i64 r0, .int .i64 r1]) ∧ Below w.heap.size w w' := by
  have l1 : ∀ n : Nat, n < n + 1 + 1 := fun n => by omega
  have l2 : ∀ n : Nat, n < n + 2 := fun n => by omega
  have l3 : ∀ n : Nat, n < n + 3 := fun n => by omega
  have l4 : ∀ n : Nat, n + 1 < n + 3 := fun n => by omega
  have l5 : ∀ n : Nat, n + 2 < n + 3 := fun n => by omega
  go_enter Try.func50, Try.ntmps50
  go_wp2
  refine bodyPost_ret (v := .agg #[.int .i64 r0, .int .i64 r1]) (by simp [results, Try.results50, go_sem]) rfl ⟨rfl, ?_⟩
  repeat (first | exact Below.refl _ _ | refine chain ?_ (below_alloc _ _) | refine Below.setCell ?_ (by dsimp only; omega) _)
def laCell (r : RLa) (j : Nat) : Value := if j = 0 then .int .i64 r.rm else .int .i64 r.ev
theorem laInfo : (Try.prog.info? 45).map (fun i => (i.zero, i.size, i.bytes)) = some (some (.agg #[.int .i64 0, .int .i64 0]), 2, 16) := by kernel_rfl
theorem makeLas (n : Nat) (hn : n ≤ 100000000) (w : World) :
    (Instr.makeSlice 37 (.int .i64 (n : Int)) (.int .i64 (n : Int))).run Try.prog w = .ok (.slice (some ⟨w.heap.size, 0, none⟩) n n) (w.alloc (.cells (madeCells #[.int .i64 0, .int .i64 0] (n * 2)) 45)) := by
  obtain ⟨i, hi, hzz⟩ := Option.map_eq_some_iff.1 laInfo
  simp only [Prod.mk.injEq] at hzz
  obtain ⟨hz, hs, hb⟩ := hzz
  have hr := run_make (P := Try.prog) w 37 45 i _ Try.underlying37 hi hz .i64 .i64 (n : Int) (n : Int) (by omega) (Int.le_refl _) (by rw [hb]; omega) (by omega)
  simp only [Int.toNat_natCast, hs] at hr
  exact hr
theorem las_made (w : World) (n : Nat) : (w.alloc (.cells (madeCells #[.int .i64 0, .int .i64 0] (n * 2)) 45)).rowIs w.heap.size 45 (n * 2) (fun j => laCell zLa (j % 2)) := by
  refine ⟨_, heapNew _ _, size_madeCells _ _, fun i hi => ?_⟩
  have h6 : i % 2 = 0 ∨ i % 2 = 1 := by omega
  unfold laCell zLa
  rcases h6 with h | h <;> simp [madeCells, hi, h] <;> rfl
def laFill (rs : List RLa) (k j : Nat) : Value := laCell (if j / 2 < k then rs.getD (j / 2) zLa else zLa) (j % 2)
theorem laFill_set {w : World} {b : Nat} {rs : List RLa} {n k : Nat} (h : w.rowIs b 45 (n * 2) (laFill rs k)) :
    ((w.setCell ⟨b, k * 2, none⟩ (.int .i64 (rs.getD k zLa).rm)).setCell ⟨b, k * 2 + 1, none⟩ (.int .i64 (rs.getD k zLa).ev)).rowIs b 45 (n * 2) (laFill rs (k + 1)) := by
  refine ((h.set (k * 2) _).set (k * 2 + 1) _).congr fun j hj => ?_
  unfold laFill
  by_cases e1 : j = k * 2 + 1
  · rw [if_pos e1, if_pos (by omega), show j / 2 = k by omega, show j % 2 = 1 by omega]; rfl
  rw [if_neg e1]
  by_cases e0 : j = k * 2
  · rw [if_pos e0, if_pos (by omega), show j / 2 = k by omega, show j % 2 = 0 by omega]; rfl
  rw [if_neg e0]
  by_cases h : j / 2 < k
  · rw [if_pos h, if_pos (by omega)]
  · rw [if_neg h, if_neg (by omega)]
def FreeLa (w : World) (b n : Nat) : Prop := ∀ j, j < n * 2 → w.frozen? ⟨b, j, none⟩ = false
theorem FreeLa.below {B : Nat} {w w' : World} {b n : Nat} (h : FreeLa w b n) (hb : Below B w w') (hB : b < B) : FreeLa w' b n := fun j hj => (hb.frozen (p := ⟨b, j, none⟩) hB).trans (h j hj)
theorem lasAt_of {w : World} {b : Nat} {rs : List RLa} (h : w.rowIs b 45 (rs.length * 2) (laFill rs rs.length)) : LasAt w b 0 rs := fun i hi => by
  refine ⟨?_, ?_⟩
  · rw [h.cell (i := 0 + i * 2) (by omega)]; unfold laFill; rw [if_pos (by omega), show (0 + i * 2) / 2 = i by omega, show (0 + i * 2) % 2 = 0 by omega]; rfl
  · rw [h.cell (i := 0 + i * 2 + 1) (by omega)]; unfold laFill; rw [if_pos (by omega), show (0 + i * 2 + 1) / 2 = i by omega, show (0 + i * 2 + 1) % 2 = 1 by omega]; rfl

set_option maxHeartbeats 2000000 in
theorem toLas_any (a : Option Addr) (cap : Nat) (rs : List RLa) (hn : rs.length ≤ 1048576) (w : World) (hr : ReadsLa w.heap.size w a rs) :
    Calls Try.prog 24 #[.slice a rs.length cap] w fun e w' => e = .returned (.slice (some ⟨w.heap.size, 0, none⟩) rs.length rs.length) ∧ Below w.heap.size w w' ∧ w.heap.size < w'.heap.size ∧ LasAt w' w.heap.size 0 rs ∧ FreeLa w' w.heap.size rs.length := by
  have hmk := fun w => makeLas rs.length (by omega) w
  have HM : Hid ((w.alloc (.cells (madeCells #[.int .i64 0, .int .i64 0] (rs.length * 2)) 45)).rowIs w.heap.size 45 (rs.length * 2) (fun j => laCell zLa (j % 2))) := las_made w rs.length
  have HR : Hid (ReadsLa w.heap.size w a rs) := hr
  clear hr
  go_enter Try.func24, Try.ntmps24
  go_wp2
  go_loopw [4] (fun i wr => ∃ k : Nat, k ≤ rs.length ∧ i = .int .i64 (k : Int) ∧ Below w.heap.size w wr ∧ wr.rowIs w.heap.size 45 (rs.length * 2) (laFill rs k)) (fun i _ => rs.length - (intOf i).toNat)
  case atStart => exact ⟨0, Nat.zero_le _, rfl, below_alloc _ _, HM.out.congr (fun i hi => by unfold laFill; rw [if_neg (by omega)])⟩
  case round =>
    obtain ⟨k, hk, rfl, hb, hrow⟩ := hrel
    have HB : Hid (Below w.heap.size w wr) := hb
    have HW : Hid (wr.rowIs w.heap.size 45 (rs.length * 2) (laFill rs k)) := hrow
    clear hb hrow
    by_cases hlt : k < rs.length
    · have hlt' : (k : Int) < (rs.length : Int) := by omega
      rcases HR.out with h | ⟨b0, o0, ha, hB0, ia⟩
      · rw [h] at hlt; simp at hlt
      obtain ⟨c0, c1⟩ := (ia.below HB.out hB0) k hlt
      have HN : Hid (∀ w2, Below wr.heap.size wr w2 → ((w2.setCell ⟨w.heap.size, k * 2, none⟩ (.int .i64 (rs.getD k zLa).rm)).setCell ⟨w.heap.size, k * 2 + 1, none⟩ (.int .i64 (rs.getD k zLa).ev)).rowIs w.heap.size 45 (rs.length * 2) (laFill rs (k + 1)) ∧ Below w.heap.size w ((w2.setCell ⟨w.heap.size, k * 2, none⟩ (.int .i64 (rs.getD k zLa).rm)).setCell ⟨w.heap.size, k * 2 + 1, none⟩ (.int .i64 (rs.getD k zLa).ev)) ∧ (∀ j, j < 2 → (w2.cell? ⟨w.heap.size, k * 2 + j, none⟩).isSome = true) ∧ (∀ j, w2.frozen? ⟨w.heap.size, j, none⟩ = false)) := fun w2 hb2 => by
        have hw2 := HW.out.of_block (hb2.block _ HW.out.lt)
        refine ⟨laFill_set hw2, (((HB.out.trans (hb2.mono HB.out.size)).setCell (Nat.le_refl _) _).setCell (Nat.le_refl _) _), fun j hj => ?_, fun j => hw2.frozen j⟩
        rw [hw2.cell (by omega)]; rfl
      rw [ha]
      clear ia
      generalize rs.getD k zLa = r at *
      obtain ⟨r0, r1⟩ := r
      dsimp only at c0 c1 HN
      go_wp2_with (go_at_call 50; refine (toLa_any _ _ _).mono ?_; rintro e w2 ⟨rfl, hb2⟩; obtain ⟨n1, n2, n3, n4⟩ := HN.out w2 hb2; have N1 : Hid (_) := n1; have N2 : Hid (_) := n2; obtain ⟨v0, hv0⟩ := Option.isSome_iff_exists.mp (n3 0 (by omega)); obtain ⟨v1, hv1⟩ := Option.isSome_iff_exists.mp (n3 1 (by omega)); rw [Nat.add_zero] at hv0; clear n1 n2 n3)
      go_roundw
      case rel => exact ⟨k + 1, by omega, by go_num, N2.out, N1.out⟩
      case measure => simp [intOf]; omega
    · obtain rfl : k = rs.length := by omega
      go_wp2
      go_ret
      exact ⟨rfl, HB.out, HW.out.lt, lasAt_of HW.out, fun j hj => HW.out.frozen j⟩
end Go.Proofs.Ythmhpgbkapjjkaa
