/-
  The laws' own markLaneS turns one block alone.
-/
import Derived.Test.YthmhpgbkapjjkaaLaE
import Derived.Test.YthmhpgbkapjjkaaMark0
namespace Go.Proofs.Ythmhpgbkapjjkaa
open Go.ChangeShapes Go.WideShapes Go.ChangeAt Go.RowKit Go.Deep
set_option linter.unusedVariables false

theorem las_some {w : World} {b : Nat} {rs : List RLa} (h : LasAt w b 0 rs) : ∀ j, j < rs.length * 2 → (w.cell? ⟨b, j, none⟩).isSome = true := fun j hj => by
  obtain ⟨h0, h1⟩ := h (j / 2) (by omega)
  rcases (show j % 2 = 0 ∨ j % 2 = 1 by omega) with e | e
  · rw [show j = 0 + j / 2 * 2 by omega, h0]; rfl
  · rw [show j = 0 + j / 2 * 2 + 1 by omega, h1]; rfl

set_option maxHeartbeats 2000000 in
theorem markLas_any (b n cap : Nat) (hn : n ≤ 1048576) (k0 : Nat) (hk : k0 ≤ 100000000) (hk1 : 1 ≤ k0) (w : World) (hM : Mk b (n * 2) w w) :
    Calls Try.prog 28 #[.slice (some ⟨b, 0, none⟩) n cap, .int .i64 (k0 : Int)] w fun e w' => e = .returned (.int .i64 ((k0 : Int) + (n : Int) * 2)) ∧ Mk b (n * 2) w w' := by
  have H0 : Hid (Mk b (n * 2) w w) := hM
  clear hM
  go_enter Try.func28, Try.ntmps28
  go_wp2
  go_loopw [1, 5] (fun k i wr => ∃ j : Nat, j ≤ n ∧ i = .int .i64 (j : Int) ∧ k = .int .i64 ((k0 : Int) + (j : Int) * 2) ∧ Mk b (n * 2) w wr) (fun _ i _ => n - (intOf i).toNat)
  case atStart => exact ⟨0, Nat.zero_le _, rfl, by simp, H0.out⟩
  case round =>
    obtain ⟨j, hj, rfl, rfl, hm⟩ := hrel
    have HM : Hid (Mk b (n * 2) w wr) := hm
    clear hm
    by_cases hlt : j < n
    · have hlt' : (j : Int) < (n : Int) := by omega
      obtain ⟨v0, hv0, hf0⟩ := HM.out.at (j * 2) (by omega)
      obtain ⟨v1, hv1, hf1⟩ := HM.out.at (j * 2 + 1) (by omega)
      go_wp2
      exact ⟨⟨j + 1, by omega, by go_num, by go_num, (HM.out.set _ _).set _ _⟩, by simp [intOf]; omega⟩
    · obtain rfl : j = n := by omega
      go_wp2
      go_ret
      exact ⟨rfl, HM.out⟩
end Go.Proofs.Ythmhpgbkapjjkaa
