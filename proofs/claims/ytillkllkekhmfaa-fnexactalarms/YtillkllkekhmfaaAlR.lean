/-
  Rows of numbers that are marked by the laws' own helpers, and held against the marks.
-/
import Derived.Test.YtillkllkekhmfaaMkP
namespace Go.Proofs.Ytillkllkekhmfaa
open Go.ChangeShapes Go.WideShapes Go.ChangeAt Go.RowKit Go.Deep
set_option linter.unusedVariables false

set_option maxHeartbeats 2000000 in
theorem markAl_row (B : Nat) (v : Value) (n : Nat) (hn : n ≤ 1048576) (k0 : Nat) (hk : k0 ≤ 100000000) (xs : List Value) (w : World) (h : w.ownsRow B 39 2 v n xs) :
    Calls Try.prog 25 #[v, .int .i64 (k0 : Int)] w fun e w' => e = .returned (.int .i64 ((k0 + n * 2 : Nat) : Int)) ∧ Fr (fun q => v.ownBlock = some q) w w' ∧ w'.ownsRow B 39 2 v n (mkV k0 (n * 2)) := by
  obtain ⟨a, cap, hv⟩ := row_slice h
  have hlen : xs.length = n * 2 := h.1
  have H0 : Hid (Fr (fun q => v.ownBlock = some q) w w ∧ w.ownsRow B 39 2 v n (mkC k0 0 xs)) := ⟨Fr.refl _ _, by rw [mkC_zero]; exact h⟩
  clear h
  subst hv
  go_enter Try.func25, Try.ntmps25
  go_wp2
  go_loopw [1, 5] (fun k i wr => ∃ j : Nat, j ≤ n ∧ i = .int .i64 (j : Int) ∧ k = .int .i64 ((k0 : Int) + (j : Int) * 2) ∧ Fr (fun q => (Value.slice a n cap).ownBlock = some q) w wr ∧ wr.ownsRow B 39 2 (.slice a n cap) n (mkC k0 (j * 2) xs)) (fun _ i _ => n - (intOf i).toNat)
  case atStart => exact ⟨0, Nat.zero_le _, rfl, by simp, H0.out.1, by simpa using H0.out.2⟩
  case round =>
    obtain ⟨j, hj, rfl, rfl, hf, hm⟩ := hrel
    have HM : Hid (Fr (fun q => (Value.slice a n cap).ownBlock = some q) w wr ∧ wr.ownsRow B 39 2 (.slice a n cap) n (mkC k0 (j * 2) xs)) := ⟨hf, hm⟩
    clear hf hm H0
    by_cases hlt : j < n
    · have hlt' : (j : Int) < (n : Int) := by omega
      obtain ⟨g, cp, hq⟩ := row_some HM.out.2 (by omega)
      simp only [Value.slice.injEq, true_and] at hq
      obtain ⟨rfl, rfl⟩ := hq
      obtain ⟨u0, hu0⟩ := ownsRow_some HM.out.2 (j * 2) (by omega)
      have hf0 := HM.out.2.frozenAt (j * 2)
      obtain ⟨u1, hu1⟩ := ownsRow_some HM.out.2 (j * 2 + 1) (by omega)
      have hf1 := HM.out.2.frozenAt (j * 2 + 1)
      have HN : Hid _ := (rowMark (rowMark HM.out.2 rfl (j * 2) (by omega) ((k0 : Int) + (j : Int) * 2) (by omega)) rfl (j * 2 + 1) (by omega) ((k0 : Int) + (j : Int) * 2 + 1) (by omega))
      go_wp2
      refine ⟨⟨j + 1, by omega, by go_num, by go_num, ((HM.out.1.set (b := g) rfl _ _).set (b := g) rfl _ _), ?_⟩, by simp [intOf]; omega⟩
      rw [show (j + 1) * 2 = j * 2 + 1 + 1 by omega]
      exact HN.out
    · obtain rfl : j = n := by omega
      rw [← hlen, mkC_all, hlen] at HM
      go_wp2
      go_ret
      exact ⟨ret_int (by omega), HM.out.1, HM.out.2⟩
set_option maxHeartbeats 2000000 in
theorem heldAl_row (B : Nat) (v : Value) (n : Nat) (hn : n ≤ 1048576) (k0 : Nat) (hk : k0 ≤ 100000000) (w : World) (h : w.ownsRow B 39 2 v n (mkV k0 (n * 2))) :
    Calls Try.prog 26 #[v, .int .i64 (k0 : Int)] w fun e w' => e = .returned (.int .i64 ((k0 + n * 2 : Nat) : Int)) ∧ Below w.heap.size w w' := by
  obtain ⟨a, cap, hv⟩ := row_slice h
  have hne : ∀ x : Int, (x != x) = false := fun x => by simp
  have H0 : Hid (Below w.heap.size w w ∧ w.ownsRow B 39 2 v n (mkV k0 (n * 2))) := ⟨Below.refl _ _, h⟩
  clear h
  subst hv
  go_enter Try.func26, Try.ntmps26
  go_wp2
  go_loopw [1, 4, 5] (fun k _ i wr => ∃ j : Nat, j ≤ n ∧ i = .int .i64 (j : Int) ∧ k = .int .i64 ((k0 : Int) + (j : Int) * 2) ∧ Below w.heap.size w wr ∧ wr.ownsRow B 39 2 (.slice a n cap) n (mkV k0 (n * 2))) (fun _ _ i _ => n - (intOf i).toNat)
  case atStart => exact ⟨0, Nat.zero_le _, rfl, by simp, H0.out⟩
  case round =>
    obtain ⟨j, hj, rfl, rfl, hm⟩ := hrel
    have HM : Hid (Below w.heap.size w wr ∧ wr.ownsRow B 39 2 (.slice a n cap) n (mkV k0 (n * 2))) := hm
    clear hm H0
    by_cases hlt : j < n
    · have hlt' : (j : Int) < (n : Int) := by omega
      obtain ⟨g, cp, hq⟩ := row_some HM.out.2 (by omega)
      simp only [Value.slice.injEq, true_and] at hq
      obtain ⟨rfl, rfl⟩ := hq
      have q0 := rowMarked HM.out.2 rfl (j * 2) (by omega) ((k0 : Int) + (j : Int) * 2) (by omega)
      have e0 := hne ((k0 : Int) + (j : Int) * 2)
      have q1 := rowMarked HM.out.2 rfl (j * 2 + 1) (by omega) ((k0 : Int) + (j : Int) * 2 + 1) (by omega)
      have e1 := hne ((k0 : Int) + (j : Int) * 2 + 1)
      go_wp2
      first
      | exact ⟨⟨j + 1, by omega, by go_num, by go_num, HM.out⟩, by simp [intOf]; omega⟩
      | (go_roundw
         case rel => exact ⟨j + 1, by omega, by go_num, by go_num, HM.out⟩
         case measure => simp [intOf]; omega)
    · obtain rfl : j = n := by omega
      go_wp2
      go_ret
      exact ⟨ret_int (by omega), HM.out.1⟩
end Go.Proofs.Ytillkllkekhmfaa
