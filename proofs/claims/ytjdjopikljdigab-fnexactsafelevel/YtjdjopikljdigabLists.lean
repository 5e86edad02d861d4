/-
  Contracts of the laws' own helpers on lists of numbers (toIntS, eqIntS, markIntS, heldIntS).
-/
import Derived.Test.YtjdjopikljdigabLists0
namespace Go.Proofs.Ytjdjopikljdigab
open Go.ChangeShapes Go.WideShapes Go.ChangeAt Go.RowKit
set_option linter.unusedVariables false

theorem eqInts_any (B : Nat) (a b : Option Addr) (ca cb : Nat) (xs ys : List Int) (hx : xs.length ≤ 100000000) (hy : ys.length ≤ 100000000) (w : World) (ra : Reads B w a xs) (rb : Reads B w b ys) :
    Calls Try.prog 7 #[.slice a xs.length ca, .slice b ys.length cb] w fun e w' => e = .returned (.bool (decide (xs = ys))) ∧ Below B w w' := by
  by_cases hl : xs.length = ys.length
  · have hl' : ((xs.length : Int) != (ys.length : Int)) = false := by rw [hl]; simp
    have HL : Hid (xs.length = ys.length) := hl
    have hll : (ys.length : Int) ≤ (xs.length : Int) ∧ (xs.length : Int) ≤ (ys.length : Int) := by omega
    obtain ⟨hl1, hl2⟩ := hll
    clear hl
    go_enter Try.func7, Try.ntmps7
    go_wp2
    go_loopw [5] (fun i wr => ∃ k : Nat, k ≤ xs.length ∧ i = .int .i64 (k : Int) ∧ xs.take k = ys.take k ∧ Below B w wr) (fun i _ => xs.length - (intOf i).toNat)
    case atStart => exact ⟨0, Nat.zero_le _, rfl, rfl, Below.refl _ _⟩
    case round =>
      obtain ⟨k, hk, rfl, ht, hb⟩ := hrel
      have HT : Hid (xs.take k = ys.take k) := ht
      clear ht
      by_cases hlt : k < xs.length
      · rcases ra with h | ⟨b0, o0, ha, hB0, ia⟩
        · rw [h] at hlt; simp at hlt
        rcases rb with h | ⟨b1, o1, hbb, hB1, ib⟩
        · rw [HL.out, h] at hlt; simp at hlt
        have c0 := (ia.below hb hB0) k hlt
        have c1 := (ib.below hb hB1) k (by omega)
        have hlt1 : (k : Int) < (xs.length : Int) := by omega
        have hlt2 : (k : Int) < (ys.length : Int) := by omega
        rw [ha, hbb]
        generalize hx0 : xs.getD k 0 = p at *
        generalize hy0 : ys.getD k 0 = q at *
        have HX : Hid (xs.getD k 0 = p) := hx0
        have HY : Hid (ys.getD k 0 = q) := hy0
        clear hx0 hy0 ia ib
        by_cases hpq : p = q
        · have hpq' : (p != q) = false := by rw [hpq]; simp
          have HE : Hid (p = q) := hpq
          clear hpq
          go_wp2
          go_quiet (fail)
          go_wp2
          go_roundw
          case rel => exact ⟨k + 1, by omega, by go_num, take_next (by omega) (by have := HL.out; omega) HT.out (HX.out.trans (HE.out.trans HY.out.symm)), below_drewN hb _⟩
          case measure => simp [intOf]; omega
        · have hpq' : (p != q) = true := by rw [bne_iff_ne]; exact hpq
          have HN : Hid (¬ xs = ys) := fun h => hpq (by rw [← HX.out, ← HY.out, h])
          clear hpq
          go_wp2
          go_quiet (fail)
          go_wp2
          go_ret
          exact ⟨ret_bool (decide_eq_false HN.out).symm, below_drewN hb _⟩
      · have HE : Hid (xs = ys) := by
          show xs = ys
          have h1 := HT.out
          rw [List.take_of_length_le (by omega), List.take_of_length_le (by have := HL.out; omega)] at h1
          exact h1
        go_wp2
        go_ret
        exact ⟨ret_bool (decide_eq_true HE.out).symm, hb⟩
  · have hl' : ((xs.length : Int) != (ys.length : Int)) = true := by
      rw [bne_iff_ne]; omega
    have e : decide (xs = ys) = false := decide_eq_false (fun h => hl (by rw [h]))
    rw [e]
    go_enter Try.func7, Try.ntmps7
    go_wp2
    go_ret
    exact ⟨rfl, Below.refl _ _⟩

theorem toInts_any (a : Option Addr) (cap : Nat) (xs : List Int) (hn : xs.length ≤ 100000000) (w : World) (hr : Reads w.heap.size w a xs) :
    Calls Try.prog 5 #[.slice a xs.length cap] w fun e w' => e = .returned (.slice (some ⟨w.heap.size, 0, none⟩) xs.length xs.length) ∧ Below w.heap.size w w' ∧ w.heap.size < w'.heap.size ∧ IntsAt w' w.heap.size 0 xs ∧ FreeAt w' w.heap.size 0 xs.length := by
  have hmk := fun w => run_make_row' (P := Try.prog) 22 3 (.int .i64 0) 8 Try.underlying22 intInfo rfl .i64 .i64 xs.length (by omega) (by omega) w
  have hmade := World.rowIs_made w (.int .i64 0) xs.length 3
  have HR : Hid (Reads w.heap.size w a xs) := hr
  have HM : Hid ((w.alloc (Obj.cells (madeCells #[Value.int .i64 0] xs.length) 3)).rowIs w.heap.size 3 xs.length (fun _ => .int .i64 0)) := hmade
  clear hr hmade
  go_enter Try.func5, Try.ntmps5
  go_wp2
  go_loopw [4] (fun i wr => ∃ k : Nat, k ≤ xs.length ∧ i = .int .i64 (k : Int) ∧ Below w.heap.size w wr ∧ wr.rowIs w.heap.size 3 xs.length (fun i => .int .i64 (if i < k then xs.getD i 0 else 0))) (fun i _ => xs.length - (intOf i).toNat)
  case atStart => exact ⟨0, Nat.zero_le _, rfl, below_alloc _ _, HM.out.congr (fun i hi => by simp)⟩
  case round =>
    obtain ⟨k, hk, rfl, hb, hrow⟩ := hrel
    have HB : Hid (Below w.heap.size w wr) := hb
    have HW : Hid (wr.rowIs w.heap.size 3 xs.length (fun i => .int .i64 (if i < k then xs.getD i 0 else 0))) := hrow
    clear hb hrow
    by_cases hlt : k < xs.length
    · have hlt' : (k : Int) < (xs.length : Int) := by omega
      rcases HR.out with h | ⟨b0, o0, ha, hB0, ia⟩
      · rw [h] at hlt; simp at hlt
      have c0 := (ia.below HB.out hB0) k hlt
      obtain ⟨v, hv⟩ : ∃ v, wr.cell? ⟨w.heap.size, k, none⟩ = some v := ⟨_, HW.out.cell hlt⟩
      have hfz : wr.frozen? ⟨w.heap.size, k, none⟩ = false := HW.out.frozen k
      rw [ha]
      have HX : Hid (xs.getD k 0 = xs.getD k 0) := rfl
      generalize hx0 : xs.getD k 0 = p at *
      have HP : Hid (xs.getD k 0 = p) := hx0
      clear hx0 ia HX
      go_wp2
      go_roundw
      case rel =>
        refine ⟨k + 1, by omega, by go_num, HB.out.setCell (Nat.le_refl _) _, (HW.out.set k (.int .i64 p)).congr (fun i hi => ?_)⟩
        by_cases e : i = k
        · rw [if_pos e, if_pos (by omega), e, HP.out]
        · rw [if_neg e]
          by_cases h2 : i < k
          · rw [if_pos h2, if_pos (by omega)]
          · rw [if_neg h2, if_neg (by omega)]
      case measure => simp [intOf]; omega
    · go_wp2
      go_ret
      refine ⟨rfl, HB.out, HW.out.lt, fun i hi => ?_, fun i hi => ?_⟩
      · rw [Nat.zero_add, HW.out.cell hi, if_pos (by omega)]
      · rw [Nat.zero_add]; exact HW.out.frozen i

end Go.Proofs.Ytjdjopikljdigab
