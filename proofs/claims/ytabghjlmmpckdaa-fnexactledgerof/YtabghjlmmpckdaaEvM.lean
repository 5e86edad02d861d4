/-
  The laws' own markEventS turns one block alone.
-/
import Derived.Test.YtabghjlmmpckdaaEvE
import Derived.Test.YtabghjlmmpckdaaMark0
import Derived.Test.YtabghjlmmpckdaaMarkText
namespace Go.Proofs.Ytabghjlmmpckdaa
open Go.ChangeShapes Go.WideShapes Go.ChangeAt Go.RowKit Go.Deep
set_option linter.unusedVariables false

theorem evs_some {w : World} {b : Nat} {rs : List REv} (h : EvsAt w b 0 rs) : ∀ j, j < rs.length * 6 → (w.cell? ⟨b, j, none⟩).isSome = true := fun j hj => by
  obtain ⟨h0, h1, h2, h3, h4, h5⟩ := h (j / 6) (by omega)
  rcases (show j % 6 = 0 ∨ j % 6 = 1 ∨ j % 6 = 2 ∨ j % 6 = 3 ∨ j % 6 = 4 ∨ j % 6 = 5 by omega) with e | e | e | e | e | e
  · rw [show j = 0 + j / 6 * 6 by omega, h0]; rfl
  · rw [show j = 0 + j / 6 * 6 + 1 by omega, h1]; rfl
  · rw [show j = 0 + j / 6 * 6 + 2 by omega, h2]; rfl
  · rw [show j = 0 + j / 6 * 6 + 3 by omega, h3]; rfl
  · rw [show j = 0 + j / 6 * 6 + 4 by omega, h4]; rfl
  · rw [show j = 0 + j / 6 * 6 + 5 by omega, h5]; rfl

set_option maxHeartbeats 2000000 in
theorem markEvs_any (b n cap : Nat) (hn : n ≤ 1048576) (k0 : Nat) (hk : k0 ≤ 100000000) (hk1 : 1 ≤ k0) (w : World) (hM : Mk b (n * 6) w w) :
    Calls Try.prog 18 #[.slice (some ⟨b, 0, none⟩) n cap, .int .i64 (k0 : Int)] w fun e w' => e = .returned (.int .i64 ((k0 : Int) + (n : Int) * 6)) ∧ Mk b (n * 6) w w' := by
  have H0 : Hid (Mk b (n * 6) w w) := hM
  clear hM
  go_enter Try.func18, Try.ntmps18
  go_wp2
  go_loopw [1, 5] (fun k i wr => ∃ j : Nat, j ≤ n ∧ i = .int .i64 (j : Int) ∧ k = .int .i64 ((k0 : Int) + (j : Int) * 6) ∧ Mk b (n * 6) w wr) (fun _ i _ => n - (intOf i).toNat)
  case atStart => exact ⟨0, Nat.zero_le _, rfl, by simp, H0.out⟩
  case round =>
    obtain ⟨j, hj, rfl, rfl, hm⟩ := hrel
    have HM : Hid (Mk b (n * 6) w wr) := hm
    clear hm
    by_cases hlt : j < n
    · have hlt' : (j : Int) < (n : Int) := by omega
      have t4 := fun w => markText_any (k0 + j * 6 + 4) (by omega) (by omega) w
      have e4 : ((k0 + j * 6 + 4 : Nat) : Int) = (k0 : Int) + (j : Int) * 6 + 1 + 1 + 1 + 1 := by omega
      rw [e4] at t4
      clear e4
      generalize mkS (k0 + j * 6 + 4) = s4 at *
      obtain ⟨v0, hv0, hf0⟩ := HM.out.at (j * 6) (by omega)
      obtain ⟨v1, hv1, hf1⟩ := HM.out.at (j * 6 + 1) (by omega)
      obtain ⟨v2, hv2, hf2⟩ := HM.out.at (j * 6 + 2) (by omega)
      obtain ⟨v3, hv3, hf3⟩ := HM.out.at (j * 6 + 3) (by omega)
      go_wp2_with fail
      (first | go_at_call 39 | skip)
      refine (t4 _).mono ?_
      rintro e w4' ⟨rfl, hb4⟩
      have HM4 : Hid (Mk b (n * 6) w w4') := ((((HM.out.set _ _).set _ _).set _ _).set _ _).later hb4
      obtain ⟨v4, hv4, hf4⟩ := HM4.out.at (j * 6 + 4) (by omega)
      obtain ⟨v5, hv5, hf5⟩ := HM4.out.at (j * 6 + 5) (by omega)
      clear hb4 t4
      go_wp2
      exact ⟨⟨j + 1, by omega, by go_num, by go_num, (HM4.out.set _ _).set _ _⟩, by simp [intOf]; omega⟩
    · obtain rfl : j = n := by omega
      go_wp2
      go_ret
      exact ⟨rfl, HM.out⟩
end Go.Proofs.Ytabghjlmmpckdaa
