/-
  The specification's l04At, for every list of rows.
-/
import Derived.Test.YtgfgecpgfcipnaaPriceD
import Derived.Test.YtgfgecpgfcipnaaPrF
import Derived.Deep.RegionHeld3
import Derived.BigQuiet
namespace Go.Proofs.Ytgfgecpgfcipnaa
open Go.ChangeShapes Go.WideShapes Go.ChangeAt Go.RowKit
set_option linter.unusedVariables false

theorem below_drewQ (w : World) (n : Nat) : Below w.heap.size w (w.drewN n) := ⟨rfl, rfl, rfl, Nat.le_refl _, fun _ _ => rfl⟩

set_option maxHeartbeats 4000000 in
set_option maxRecDepth 4000 in
theorem specAt_any (a : Option Addr) (cap : Nat) (rs : List RPr) (hl : rs.length ≤ 100000000) (art zn : ByteArray) (m : Int) (w : World) (hr : ReadsPr w.heap.size w a rs) :
    Calls Try.prog 21 #[.slice a rs.length cap, .string art, .string zn, .int .i64 m] w fun e w' => e = .returned (.int .i64 (atAll rs art zn m)) ∧ Below w.heap.size w w' := by
  have HR : Hid (ReadsPr w.heap.size w a rs) := hr
  clear hr
  go_enter Try.func21, Try.ntmps21
  go_wp2
  go_loopw [9, 10, 11] (fun b c _ wr => ∃ k : Nat, k ≤ rs.length ∧ c = .int .i64 (k : Int) ∧ b = .int .i64 (atN rs art zn m k) ∧ Below w.heap.size w wr) (fun _ c _ _ => rs.length - (intOf c).toNat)
  case atStart => exact ⟨0, Nat.zero_le _, rfl, rfl, Below.refl _ _⟩
  case round =>
    obtain ⟨k, hk, rfl, rfl, hb⟩ := hrel
    have HB : Hid (Below w.heap.size w wr) := hb
    clear hb
    by_cases hlt : k < rs.length
    · have hlt' : (k : Int) < (rs.length : Int) := by omega
      rcases HR.out with h | ⟨b0, o0, ha, hB0, ia⟩
      · rw [h] at hlt; simp at hlt
      obtain ⟨c0, c1, c2, c3, c4, c5⟩ := (ia.below HB.out hB0) k hlt
      have HNo : Hid (prHolds art zn m (rs.getD k zPr) = false → atN rs art zn m (k + 1) = atN rs art zn m k) := atN_no
      have HNew : Hid (prHolds art zn m (rs.getD k zPr) = true → atN rs art zn m k = -1 → atN rs art zn m (k + 1) = (k : Int)) := atN_new
      have HOld : Hid (∀ j : Nat, prHolds art zn m (rs.getD k zPr) = true → atN rs art zn m k = (j : Int) → atN rs art zn m (k + 1) = if prAhead (rs.getD k zPr) (rs.getD j zPr) = true then (k : Int) else (j : Int)) := fun j => atN_old
      have HI : Hid (PrsAt wr b0 o0 rs) := ia.below HB.out hB0
      have hl0 : b0 < wr.heap.size := Nat.lt_of_lt_of_le hB0 HB.out.size
      rw [ha]
      clear ia
      have HW := atN_ways rs art zn m k
      generalize rs.getD k zPr = r at *
      obtain ⟨r0, r1, r2, r3, r4, r5⟩ := r
      dsimp only at c0 c1 c2 c3 c4 c5
      rcases holds_ways art zn r0 r1 r2 r3 r4 r5 m with ⟨h1, hE⟩ | ⟨h1, h2, h3, hE⟩ | ⟨h1, (⟨h2, h3⟩ | ⟨h2, h3⟩ | ⟨h2, h3⟩), (⟨h4, hE⟩ | ⟨h4, h5, hE⟩ | ⟨h4, h5, hE⟩)⟩
      all_goals first
        | (have HE : Hid _ := HNo.out hE
           clear hE HW
           generalize atN rs art zn m k = x at *
           go_wp2
           first
           | exact ⟨⟨k + 1, by omega, by go_num, by rw [HE.out], chain HB.out (below_alloc _ _)⟩, by simp [intOf]; omega⟩
           | (go_roundw
              case rel => exact ⟨k + 1, by omega, by go_num, by rw [HE.out], chain HB.out (below_alloc _ _)⟩
              case measure => simp [intOf]; omega))
        | skip
      all_goals
        rcases HW with hx | ⟨j, hj, hx⟩
        · have HE : Hid _ := HNew.out hE hx
          rw [hx]
          clear hE hx HOld HNew HNo
          go_wp2
          go_quiet (fail)
          go_wp2
          first
          | exact ⟨⟨k + 1, by omega, by go_num, by rw [HE.out], chain HB.out (chain (below_alloc _ _) (below_drewQ _ _))⟩, by simp [intOf]; omega⟩
          | (go_roundw
             case rel => exact ⟨k + 1, by omega, by go_num, by rw [HE.out], chain HB.out (chain (below_alloc _ _) (below_drewQ _ _))⟩
             case measure => simp [intOf]; omega)
        · have HE : Hid _ := HOld.out j hE hx
          rw [hx]
          have hjl : (j : Int) < (rs.length : Int) := by omega
          have hd : decide ((j : Int) < 0) = false := decide_eq_false (by omega)
          have HJ : Hid (PrAt wr b0 (o0 + j * 6) (rs.getD j zPr)) := HI.out j (by omega)
          clear hE hx HOld HNew HNo HI
          generalize rs.getD j zPr = q at *
          obtain ⟨q0, q1, q2, q3, q4, q5⟩ := q
          have hah := fun w => specAhead_any r0 r1 r2 r3 r4 r5 q0 q1 q2 q3 q4 q5 w
          generalize prAhead ⟨r0, r1, r2, r3, r4, r5⟩ ⟨q0, q1, q2, q3, q4, q5⟩ = ab at *
          go_wp2
          obtain ⟨d0, d1, d2, d3, d4, d5⟩ := HJ.out.below (below_alloc wr (Obj.cells #[.string r0, .string r1, .int .i64 r2, .int .i64 r3, .int .i64 r4, .int .i64 r5] 36)) hl0
          obtain ⟨e0, e1, e2, e3, e4, e5⟩ := prNew wr r0 r1 r2 r3 r4 r5
          dsimp only at d0 d1 d2 d3 d4 d5 e0 e1 e2 e3 e4 e5
          have lt0 : wr.heap.size < (wr.alloc (Obj.cells #[.string r0, .string r1, .int .i64 r2, .int .i64 r3, .int .i64 r4, .int .i64 r5] 36)).heap.size := by simp
          have lt1 : b0 < (wr.alloc (Obj.cells #[.string r0, .string r1, .int .i64 r2, .int .i64 r3, .int .i64 r4, .int .i64 r5] 36)).heap.size := Nat.lt_of_lt_of_le hl0 (below_alloc _ _).size
          go_region_held3 (fun W => W.cell? ⟨wr.heap.size, 0, none⟩ = some (.string r0) ∧ W.cell? ⟨wr.heap.size, 1, none⟩ = some (.string r1) ∧ W.cell? ⟨wr.heap.size, 2, none⟩ = some (.int .i64 r2) ∧ W.cell? ⟨wr.heap.size, 3, none⟩ = some (.int .i64 r3) ∧ W.cell? ⟨wr.heap.size, 4, none⟩ = some (.int .i64 r4) ∧ W.cell? ⟨wr.heap.size, 5, none⟩ = some (.int .i64 r5) ∧ W.cell? ⟨b0, o0 + j * 6, none⟩ = some (.string q0) ∧ W.cell? ⟨b0, o0 + j * 6 + 1, none⟩ = some (.string q1) ∧ W.cell? ⟨b0, o0 + j * 6 + 2, none⟩ = some (.int .i64 q2) ∧ W.cell? ⟨b0, o0 + j * 6 + 3, none⟩ = some (.int .i64 q3) ∧ W.cell? ⟨b0, o0 + j * 6 + 4, none⟩ = some (.int .i64 q4) ∧ W.cell? ⟨b0, o0 + j * 6 + 5, none⟩ = some (.int .i64 q5) ∧ wr.heap.size < W.heap.size ∧ b0 < W.heap.size) (first | exact ⟨e0, e1, e2, e3, e4, e5, d0, d1, d2, d3, d4, d5, lt0, lt1⟩ | exact keepPr (by assumption) (by assumption)) (first | (go_at_call 34; refine (hah _).mono ?_; rintro e w2 ⟨rfl, hb2⟩))
          have HB2 : Hid (Below w.heap.size w w2) := chain HB.out (chain (below_alloc _ _) (chain (below_drew _) hb2))
          clear HJ hb2 hah d0 d1 d2 d3 d4 d5 e0 e1 e2 e3 e4 e5 lt0 lt1
          cases ab
          all_goals
            go_wp2
            first
            | exact ⟨⟨k + 1, by omega, by go_num, by rw [HE.out]; simp, HB2.out⟩, by simp [intOf]; omega⟩
            | (go_roundw
               case rel => exact ⟨k + 1, by omega, by go_num, by rw [HE.out]; simp, HB2.out⟩
               case measure => simp [intOf]; omega)
    · obtain rfl : k = rs.length := by omega
      go_wp2
      go_ret
      exact ⟨rfl, HB.out⟩
end Go.Proofs.Ytgfgecpgfcipnaa
