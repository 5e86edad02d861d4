/-
  The laws' own helper eqStockLotS.
-/
import Derived.Test.YtdhdecbdcfdmeaaSlA
import Derived.Deep.RegionHeld3
namespace Go.Proofs.Ytdhdecbdcfdmeaa
open Go.ChangeShapes Go.WideShapes Go.ChangeAt Go.RowKit Go.Deep
set_option linter.unusedVariables false

theorem eqSl_any (r0 : ByteArray) (r1 : Int) (r2 : Int) (r3 : Int) (r4 : Bool) (w : World) :
    Calls Try.prog 48 #[.agg #[.string r0, .int .i64 r1, .int .i64 r2, .int .i64 r3, .bool r4], .agg #[.string r0, .int .i64 r1, .int .i64 r2, .int .i64 r3, .bool r4]] w fun e w' => e = .returned (.bool true) ∧ Below w.heap.size w w' := by
  have l1 : ∀ n : Nat, n < n + 1 + 1 := fun n => by omega
  have l2 : ∀ n : Nat, n < n + 2 := fun n => by omega
  go_enter Try.func48, Try.ntmps48
  go_wp2
  go_ret
  exact ⟨rfl, chain (below_alloc _ _) (below_alloc _ _)⟩
theorem keepSl {W w1 : World} {b0 b1 p0 p1 p2 p3 p4 q0 q1 q2 q3 q4 : Nat} {c0 c1 c2 c3 c4 d0 d1 d2 d3 d4 : Value} (hb : Below W.heap.size W w1) (h : W.cell? ⟨b0, p0, none⟩ = some c0 ∧ W.cell? ⟨b0, p1, none⟩ = some c1 ∧ W.cell? ⟨b0, p2, none⟩ = some c2 ∧ W.cell? ⟨b0, p3, none⟩ = some c3 ∧ W.cell? ⟨b0, p4, none⟩ = some c4 ∧ W.cell? ⟨b1, q0, none⟩ = some d0 ∧ W.cell? ⟨b1, q1, none⟩ = some d1 ∧ W.cell? ⟨b1, q2, none⟩ = some d2 ∧ W.cell? ⟨b1, q3, none⟩ = some d3 ∧ W.cell? ⟨b1, q4, none⟩ = some d4 ∧ b0 < W.heap.size ∧ b1 < W.heap.size) :
    w1.cell? ⟨b0, p0, none⟩ = some c0 ∧ w1.cell? ⟨b0, p1, none⟩ = some c1 ∧ w1.cell? ⟨b0, p2, none⟩ = some c2 ∧ w1.cell? ⟨b0, p3, none⟩ = some c3 ∧ w1.cell? ⟨b0, p4, none⟩ = some c4 ∧ w1.cell? ⟨b1, q0, none⟩ = some d0 ∧ w1.cell? ⟨b1, q1, none⟩ = some d1 ∧ w1.cell? ⟨b1, q2, none⟩ = some d2 ∧ w1.cell? ⟨b1, q3, none⟩ = some d3 ∧ w1.cell? ⟨b1, q4, none⟩ = some d4 ∧ b0 < w1.heap.size ∧ b1 < w1.heap.size := by
  obtain ⟨h0, h1, h2, h3, h4, k0, k1, k2, k3, k4, l0, l1⟩ := h
  exact ⟨(hb.cell (p := ⟨b0, p0, none⟩) l0).trans h0, (hb.cell (p := ⟨b0, p1, none⟩) l0).trans h1, (hb.cell (p := ⟨b0, p2, none⟩) l0).trans h2, (hb.cell (p := ⟨b0, p3, none⟩) l0).trans h3, (hb.cell (p := ⟨b0, p4, none⟩) l0).trans h4, (hb.cell (p := ⟨b1, q0, none⟩) l1).trans k0, (hb.cell (p := ⟨b1, q1, none⟩) l1).trans k1, (hb.cell (p := ⟨b1, q2, none⟩) l1).trans k2, (hb.cell (p := ⟨b1, q3, none⟩) l1).trans k3, (hb.cell (p := ⟨b1, q4, none⟩) l1).trans k4, Nat.lt_of_lt_of_le l0 hb.size, Nat.lt_of_lt_of_le l1 hb.size⟩

set_option maxHeartbeats 2000000 in
theorem eqSls_any (a b : Option Addr) (ca cb : Nat) (rs : List RSl) (hn : rs.length ≤ 1048576) (w : World) (ra : ReadsSl w.heap.size w a rs) (rb : ReadsSl w.heap.size w b rs) :
    Calls Try.prog 30 #[.slice a rs.length ca, .slice b rs.length cb] w fun e w' => e = .returned (.bool true) ∧ Below w.heap.size w w' := by
  have HA : Hid (ReadsSl w.heap.size w a rs) := ra
  have HBb : Hid (ReadsSl w.heap.size w b rs) := rb
  clear ra rb
  go_enter Try.func30, Try.ntmps30
  go_wp2
  go_loopw [5] (fun i wr => ∃ k : Nat, k ≤ rs.length ∧ i = .int .i64 (k : Int) ∧ Below w.heap.size w wr) (fun i _ => rs.length - (intOf i).toNat)
  case atStart => exact ⟨0, Nat.zero_le _, rfl, Below.refl _ _⟩
  case round =>
    obtain ⟨k, hk, rfl, hb⟩ := hrel
    have HB : Hid (Below w.heap.size w wr) := hb
    clear hb
    by_cases hlt : k < rs.length
    · have hlt' : (k : Int) < (rs.length : Int) := by omega
      rcases HA.out with h | ⟨b0, o0, ha, hB0, ia⟩
      · rw [h] at hlt; simp at hlt
      rcases HBb.out with h | ⟨b1, o1, hbb, hB1, ib⟩
      · rw [h] at hlt; simp at hlt
      obtain ⟨c0, c1, c2, c3, c4⟩ := (ia.below HB.out hB0) k hlt
      obtain ⟨d0, d1, d2, d3, d4⟩ := (ib.below HB.out hB1) k hlt
      have lt0 : b0 < wr.heap.size := Nat.lt_of_lt_of_le hB0 HB.out.size
      have lt1 : b1 < wr.heap.size := Nat.lt_of_lt_of_le hB1 HB.out.size
      rw [ha, hbb]
      clear ia ib
      generalize rs.getD k zSl = r at *
      obtain ⟨r0, r1, r2, r3, r4⟩ := r
      dsimp only at c0 c1 c2 c3 c4 d0 d1 d2 d3 d4
      go_wp2
      go_region_held3 (fun W => W.cell? ⟨b0, o0 + k * 5, none⟩ = some (.string r0) ∧ W.cell? ⟨b0, o0 + k * 5 + 1, none⟩ = some (.int .i64 r1) ∧ W.cell? ⟨b0, o0 + k * 5 + 2, none⟩ = some (.int .i64 r2) ∧ W.cell? ⟨b0, o0 + k * 5 + 3, none⟩ = some (.int .i64 r3) ∧ W.cell? ⟨b0, o0 + k * 5 + 4, none⟩ = some (.bool r4) ∧ W.cell? ⟨b1, o1 + k * 5, none⟩ = some (.string r0) ∧ W.cell? ⟨b1, o1 + k * 5 + 1, none⟩ = some (.int .i64 r1) ∧ W.cell? ⟨b1, o1 + k * 5 + 2, none⟩ = some (.int .i64 r2) ∧ W.cell? ⟨b1, o1 + k * 5 + 3, none⟩ = some (.int .i64 r3) ∧ W.cell? ⟨b1, o1 + k * 5 + 4, none⟩ = some (.bool r4) ∧ b0 < W.heap.size ∧ b1 < W.heap.size) (first | exact ⟨c0, c1, c2, c3, c4, d0, d1, d2, d3, d4, lt0, lt1⟩ | exact keepSl (by assumption) (by assumption)) (first | (go_at_call 48; refine (eqSl_any _ _ _ _ _ _).mono ?_; rintro e w2 ⟨rfl, hb2⟩))
      have HB2 : Hid (Below w.heap.size w w2) := chain HB.out.drew hb2
      go_wp2
      go_roundw
      case rel => exact ⟨k + 1, by omega, by go_num, HB2.out⟩
      case measure => simp [intOf]; omega
    · go_wp2
      go_ret
      exact ⟨rfl, HB.out⟩

end Go.Proofs.Ytdhdecbdcfdmeaa
