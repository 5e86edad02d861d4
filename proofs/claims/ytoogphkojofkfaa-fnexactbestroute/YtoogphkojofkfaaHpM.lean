/-
  The laws' own markStopS turns one block alone.
-/
import Derived.Test.YtoogphkojofkfaaHpE
import Derived.Test.YtoogphkojofkfaaMark0
namespace Go.Proofs.Ytoogphkojofkfaa
open Go.ChangeShapes Go.WideShapes Go.ChangeAt Go.RowKit Go.Deep
set_option linter.unusedVariables false

theorem hps_some {w : World} {b : Nat} {rs : List RHp} (h : HpsAt w b 0 rs) : ∀ j, j < rs.length * 5 → (w.cell? ⟨b, j, none⟩).isSome = true := fun j hj => by
  obtain ⟨h0, h1, h2, h3, h4⟩ := h (j / 5) (by omega)
  rcases (show j % 5 = 0 ∨ j % 5 = 1 ∨ j % 5 = 2 ∨ j % 5 = 3 ∨ j % 5 = 4 by omega) with e | e | e | e | e
  · rw [show j = 0 + j / 5 * 5 by omega, h0]; rfl
  · rw [show j = 0 + j / 5 * 5 + 1 by omega, h1]; rfl
  · rw [show j = 0 + j / 5 * 5 + 2 by omega, h2]; rfl
  · rw [show j = 0 + j / 5 * 5 + 3 by omega, h3]; rfl
  · rw [show j = 0 + j / 5 * 5 + 4 by omega, h4]; rfl

set_option maxHeartbeats 2000000 in
theorem markHps_any (b n cap : Nat) (hn : n ≤ 1048576) (k0 : Nat) (hk : k0 ≤ 100000000) (hk1 : 1 ≤ k0) (w : World) (hM : Mk b (n * 5) w w) :
    Calls Try.prog 16 #[.slice (some ⟨b, 0, none⟩) n cap, .int .i64 (k0 : Int)] w fun e w' => e = .returned (.int .i64 ((k0 : Int) + (n : Int) * 5)) ∧ Mk b (n * 5) w w' := by
  have H0 : Hid (Mk b (n * 5) w w) := hM
  clear hM
  go_enter Try.func16, Try.ntmps16
  go_wp2
  go_loopw [1, 5] (fun k i wr => ∃ j : Nat, j ≤ n ∧ i = .int .i64 (j : Int) ∧ k = .int .i64 ((k0 : Int) + (j : Int) * 5) ∧ Mk b (n * 5) w wr) (fun _ i _ => n - (intOf i).toNat)
  case atStart => exact ⟨0, Nat.zero_le _, rfl, by simp, H0.out⟩
  case round =>
    obtain ⟨j, hj, rfl, rfl, hm⟩ := hrel
    have HM : Hid (Mk b (n * 5) w wr) := hm
    clear hm
    by_cases hlt : j < n
    · have hlt' : (j : Int) < (n : Int) := by omega
      obtain ⟨v0, hv0, hf0⟩ := HM.out.at (j * 5) (by omega)
      obtain ⟨v1, hv1, hf1⟩ := HM.out.at (j * 5 + 1) (by omega)
      obtain ⟨v2, hv2, hf2⟩ := HM.out.at (j * 5 + 2) (by omega)
      obtain ⟨v3, hv3, hf3⟩ := HM.out.at (j * 5 + 3) (by omega)
      obtain ⟨v4, hv4, hf4⟩ := HM.out.at (j * 5 + 4) (by omega)
      go_wp2
      exact ⟨⟨j + 1, by omega, by go_num, by go_num, ((((HM.out.set _ _).set _ _).set _ _).set _ _).set _ _⟩, by simp [intOf]; omega⟩
    · obtain rfl : j = n := by omega
      go_wp2
      go_ret
      exact ⟨rfl, HM.out⟩
end Go.Proofs.Ytoogphkojofkfaa
