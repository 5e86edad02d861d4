/-
  Contracts of the laws' own helpers on lists of numbers (toIntS, eqIntS, markIntS, heldIntS).
-/
import Derived.Test.YthmhpgbkapjjkaaLists0
namespace Go.Proofs.Ythmhpgbkapjjkaa
open Go.ChangeShapes Go.WideShapes Go.ChangeAt Go.RowKit
set_option linter.unusedVariables false

theorem eqInts_any (B : Nat) (a b : Option Addr) (ca cb : Nat) (xs ys : List Int) (hx : xs.length ≤ 100000000) (hy : ys.length ≤ 100000000) (w : World) (ra : Reads B w a xs) (rb : Reads B w b ys) :
    Calls Try.prog 17 #[.slice a xs.length ca, .slice b ys.length cb] w fun e w' => e = .returned (.bool (decide (xs = ys))) ∧ Below B w w' := by
  by_cases hl : xs.length = ys.length
  · have hl' : ((xs.length : Int) != (ys.length : Int)) = false := by rw [hl]; simp
    have HL : Hid (xs.length = ys.length) := hl
    have hll : (ys.length : Int) ≤ (xs.length : Int) ∧ (xs.length : Int) ≤ (ys.length : Int) := by omega
    obtain ⟨hl1, hl2⟩ := hll
    clear hl
    go_enter Try.func17, Try.ntmps17
    go_wp2
    go_loopw [5] (fun i wr => ∃ k : Nat, k ≤ xs.length ∧ i = .int .i64 (k : Int) ∧ xs.take k = ys.take k ∧ Below B w wr) (fun i _ => xs.length - (intOf i).toNat)
    case atStart => exact ⟨0, Nat.zero_le _, rfl, rfl, Below.refl _ _⟩
    case round =>
      obtain ⟨k, hk, rfl, ht, hb⟩ := hrel
      have HT : Hid (xs.take k = ys.take k) := ht
      clear ht
      by_cases hlt : k < xs.length
      · rcases ra with h | ⟨b0, o0, ha, hB0, ia⟩
        · rw [h] at hlt; simp at hlt
        rcases rb with h | ⟨b1, o1, hbb, hB1, ib⟩
        · rw [HL.out, h] at hlt; simp at hlt
        have c0 := (ia.below hb hB0) k hlt
        have c1 := (ib.below hb hB1) k (by omega)
        have hlt1 : (k : Int) < (xs.length : Int) := by omega
        have hlt2 : (k : Int) < (ys.length : Int) := by omega
        rw [ha, hbb]
        generalize hx0 : xs.getD k 0 = p at *
        generalize hy0 : ys.getD k 0 = q at *
        have HX : Hid (xs.getD k 0 = p) := hx0
        have HY : Hid (ys.getD k 0 = q) := hy0
        clear hx0 hy0 ia ib
        by_cases hpq : p = q
        · have hpq' : (p != q) = false := by rw [hpq]; simp
          have HE : Hid (p = q) := hpq
          clear hpq
          go_wp2
          go_quiet (fail)
          go_wp2
          go_roundw
          case rel => exact ⟨k + 1, by omega, by go_num, take_next (by omega) (by have := HL.out; omega) HT.out (HX.out.trans (HE.out.trans HY.out.symm)), below_drewN hb _⟩
          case measure => simp [intOf]; omega
        · have hpq' : (p != q) = true := by rw [bne_iff_ne]; exact hpq
          have HN : Hid (¬ xs = ys) := fun h => hpq (by rw [← HX.out, ← HY.out, h])
          clear hpq
          go_wp2
          go_quiet (fail)
          go_wp2
          go_ret
          exact ⟨ret_bool (decide_eq_false HN.out).symm, below_drewN hb _⟩
      · have HE : Hid (xs = ys) := by
          show xs = ys
          have h1 := HT.out
          rw [List.take_of_length_le (by omega), List.take_of_length_le (by have := HL.out; omega)] at h1
          exact h1
        go_wp2
        go_ret
        exact ⟨ret_bool (decide_eq_true HE.out).symm, hb⟩
  · have hl' : ((xs.length : Int) != (ys.length : Int)) = true := by
      rw [bne_iff_ne]; omega
    have e : decide (xs = ys) = false := decide_eq_false (fun h => hl (by rw [h]))
    rw [e]
    go_enter Try.func17, Try.ntmps17
    go_wp2
    go_ret
    exact ⟨rfl, Below.refl _ _⟩

theorem held_any (b off n cap : Nat) (hn : n ≤ 100000000) (k0 : Int) (h0 : 0 ≤ k0) (h1 : k0 ≤ 100000000) (w : World) (hi : IntsAt w b off (marks k0 n)) :
    Calls Try.prog 21 #[.slice (some ⟨b, off, none⟩) n cap, .int .i64 k0] w fun e w' => e = .returned (.int .i64 (k0 + (n : Int))) ∧ w' = w := by
  have HI : Hid (IntsAt w b off (marks k0 n)) := hi
  clear hi
  go_enter Try.func21, Try.ntmps21
  go_wp2
  go_loop [1, 5] (fun k i => ∃ j : Nat, j ≤ n ∧ i = .int .i64 (j : Int) ∧ k = .int .i64 (k0 + (j : Int))) (fun _ i => n - (intOf i).toNat)
  case atStart => exact ⟨0, Nat.zero_le _, rfl, by simp⟩
  case round =>
    obtain ⟨j, hj, rfl, rfl⟩ := hrel
    by_cases hlt : j < n
    · have hlt' : (j : Int) < (n : Int) := by omega
      have c0 : w.cell? ⟨b, off + j, none⟩ = some (.int .i64 (k0 + (j : Int))) := by
        have := HI.out j (by rw [marks_length]; exact hlt)
        rwa [marks_getD k0 n j hlt] at this
      go_wp2
      go_round
      case rel => exact ⟨j + 1, by omega, by go_num, by go_num⟩
      case measure => simp [intOf]; omega
    · have e : j = n := by omega
      have HE : Hid (j = n) := e
      clear e
      go_wp2
      go_ret
      exact ⟨ret_int (by rw [HE.out]), rfl⟩

theorem held_none (a : Option Addr) (cap : Nat) (k0 : Int) (w : World) :
    Calls Try.prog 21 #[.slice a 0 cap, .int .i64 k0] w fun e w' => e = .returned (.int .i64 k0) ∧ w' = w := by
  go_enter Try.func21, Try.ntmps21
  go_wp2
  go_loop [1, 5] (fun k i => i = .int .i64 0 ∧ k = .int .i64 k0) (fun _ i => 0)
  case atStart => exact ⟨rfl, rfl⟩
  case round =>
    obtain ⟨rfl, rfl⟩ := hrel
    go_wp2
    go_ret
    exact ⟨rfl, rfl⟩

theorem mark_any (b off n cap : Nat) (hn : n ≤ 100000000) (k0 : Int) (h0 : 0 ≤ k0) (h1 : k0 ≤ 100000000) (w : World) (hc : ∀ i, i < n → (w.cell? ⟨b, off + i, none⟩).isSome = true) (hf : FreeAt w b off n) :
    Calls Try.prog 20 #[.slice (some ⟨b, off, none⟩) n cap, .int .i64 k0] w fun e w' => e = .returned (.int .i64 (k0 + (n : Int))) ∧ Others b w w' ∧ IntsAt w' b off (marks k0 n) := by
  have HC : Hid (∀ i, i < n → (w.cell? ⟨b, off + i, none⟩).isSome = true) := hc
  have HF : Hid (FreeAt w b off n) := hf
  clear hc hf
  go_enter Try.func20, Try.ntmps20
  go_wp2
  go_loopw [1, 5] (fun k i wr => ∃ j : Nat, j ≤ n ∧ i = .int .i64 (j : Int) ∧ k = .int .i64 (k0 + (j : Int)) ∧ Others b w wr ∧ (∀ i, i < n → (wr.cell? ⟨b, off + i, none⟩).isSome = true) ∧ ∀ i, i < j → wr.cell? ⟨b, off + i, none⟩ = some (.int .i64 (k0 + (i : Int)))) (fun _ i _ => n - (intOf i).toNat)
  case atStart => exact ⟨0, Nat.zero_le _, rfl, by simp, Others.refl _ _, HC.out, fun i hi => by omega⟩
  case round =>
    obtain ⟨j, hj, rfl, rfl, ho, hs, hm⟩ := hrel
    have HO : Hid (Others b w wr) := ho
    have HS : Hid (∀ i, i < n → (wr.cell? ⟨b, off + i, none⟩).isSome = true) := hs
    have HM : Hid (∀ i, i < j → wr.cell? ⟨b, off + i, none⟩ = some (.int .i64 (k0 + (i : Int)))) := hm
    clear ho hs hm
    by_cases hlt : j < n
    · have hlt' : (j : Int) < (n : Int) := by omega
      obtain ⟨v, hv⟩ := Option.isSome_iff_exists.mp (HS.out j hlt)
      have hfz : wr.frozen? ⟨b, off + j, none⟩ = false := (HO.out.2.1 b (off + j)).trans (HF.out j hlt)
      go_wp2
      go_roundw
      case rel =>
        refine ⟨j + 1, by omega, by go_num, by go_num, HO.out.set _ _, fun i hi => ?_, fun i hi => ?_⟩
        · by_cases e : i = j
          · rw [e, World.cell?_setCell_same _ _ _ hv]; rfl
          · rw [World.cell?_setCell_other _ _ _ _ (fun h => e (by first | (simp at h; omega) | (simp at h; done) | (cases h; rfl)))]; exact HS.out i hi
        · by_cases e : i = j
          · rw [e]; exact World.cell?_setCell_same _ _ _ hv
          · rw [World.cell?_setCell_other _ _ _ _ (fun h => e (by first | (simp at h; omega) | (simp at h; done) | (cases h; rfl)))]; exact HM.out i (by omega)
      case measure => simp [intOf]; omega
    · have e : j = n := by omega
      have HE : Hid (j = n) := e
      clear e
      go_wp2
      go_ret
      refine ⟨ret_int (by rw [HE.out]), HO.out, fun i hi => ?_⟩
      rw [marks_length] at hi
      rw [marks_getD k0 n i hi]
      exact HM.out i (by have := HE.out; omega)

theorem mark_none (a : Option Addr) (cap : Nat) (k0 : Int) (w : World) :
    Calls Try.prog 20 #[.slice a 0 cap, .int .i64 k0] w fun e w' => e = .returned (.int .i64 k0) ∧ w' = w := by
  go_enter Try.func20, Try.ntmps20
  go_wp2
  go_loop [1, 5] (fun k i => i = .int .i64 0 ∧ k = .int .i64 k0) (fun _ i => 0)
  case atStart => exact ⟨rfl, rfl⟩
  case round =>
    obtain ⟨rfl, rfl⟩ := hrel
    go_wp2
    go_ret
    exact ⟨rfl, rfl⟩


theorem toInts_any (a : Option Addr) (cap : Nat) (xs : List Int) (hn : xs.length ≤ 100000000) (w : World) (hr : Reads w.heap.size w a xs) :
    Calls Try.prog 25 #[.slice a xs.length cap] w fun e w' => e = .returned (.slice (some ⟨w.heap.size, 0, none⟩) xs.length xs.length) ∧ Below w.heap.size w w' ∧ w.heap.size < w'.heap.size ∧ IntsAt w' w.heap.size 0 xs ∧ FreeAt w' w.heap.size 0 xs.length := by
  have hmk := fun w => run_make_row' (P := Try.prog) 26 3 (.int .i64 0) 8 Try.underlying26 intInfo rfl .i64 .i64 xs.length (by omega) (by omega) w
  have hmade := World.rowIs_made w (.int .i64 0) xs.length 3
  have HR : Hid (Reads w.heap.size w a xs) := hr
  have HM : Hid ((w.alloc (Obj.cells (madeCells #[Value.int .i64 0] xs.length) 3)).rowIs w.heap.size 3 xs.length (fun _ => .int .i64 0)) := hmade
  clear hr hmade
  go_enter Try.func25, Try.ntmps25
  go_wp2
  go_loopw [4] (fun i wr => ∃ k : Nat, k ≤ xs.length ∧ i = .int .i64 (k : Int) ∧ Below w.heap.size w wr ∧ wr.rowIs w.heap.size 3 xs.length (fun i => .int .i64 (if i < k then xs.getD i 0 else 0))) (fun i _ => xs.length - (intOf i).toNat)
  case atStart => exact ⟨0, Nat.zero_le _, rfl, below_alloc _ _, HM.out.congr (fun i hi => by simp)⟩
  case round =>
    obtain ⟨k, hk, rfl, hb, hrow⟩ := hrel
    have HB : Hid (Below w.heap.size w wr) := hb
    have HW : Hid (wr.rowIs w.heap.size 3 xs.length (fun i => .int .i64 (if i < k then xs.getD i 0 else 0))) := hrow
    clear hb hrow
    by_cases hlt : k < xs.length
    · have hlt' : (k : Int) < (xs.length : Int) := by omega
      rcases HR.out with h | ⟨b0, o0, ha, hB0, ia⟩
      · rw [h] at hlt; simp at hlt
      have c0 := (ia.below HB.out hB0) k hlt
      obtain ⟨v, hv⟩ : ∃ v, wr.cell? ⟨w.heap.size, k, none⟩ = some v := ⟨_, HW.out.cell hlt⟩
      have hfz : wr.frozen? ⟨w.heap.size, k, none⟩ = false := HW.out.frozen k
      rw [ha]
      have HX : Hid (xs.getD k 0 = xs.getD k 0) := rfl
      generalize hx0 : xs.getD k 0 = p at *
      have HP : Hid (xs.getD k 0 = p) := hx0
      clear hx0 ia HX
      go_wp2
      go_roundw
      case rel =>
        refine ⟨k + 1, by omega, by go_num, HB.out.setCell (Nat.le_refl _) _, (HW.out.set k (.int .i64 p)).congr (fun i hi => ?_)⟩
        by_cases e : i = k
        · rw [if_pos e, if_pos (by omega), e, HP.out]
        · rw [if_neg e]
          by_cases h2 : i < k
          · rw [if_pos h2, if_pos (by omega)]
          · rw [if_neg h2, if_neg (by omega)]
      case measure => simp [intOf]; omega
    · go_wp2
      go_ret
      refine ⟨rfl, HB.out, HW.out.lt, fun i hi => ?_, fun i hi => ?_⟩
      · rw [Nat.zero_add, HW.out.cell hi, if_pos (by omega)]
      · rw [Nat.zero_add]; exact HW.out.frozen i

end Go.Proofs.Ythmhpgbkapjjkaa
