/-
  The laws' own markPriceRowS turns one block alone.
-/
import Derived.Test.YtbkaikobjkkgkaaPrE
import Derived.Test.YtbkaikobjkkgkaaMark0
import Derived.Test.YtbkaikobjkkgkaaMarkText
namespace Go.Proofs.Ytbkaikobjkkgkaa
open Go.ChangeShapes Go.WideShapes Go.ChangeAt Go.RowKit Go.Deep
set_option linter.unusedVariables false

theorem prs_some {w : World} {b : Nat} {rs : List RPr} (h : PrsAt w b 0 rs) : ∀ j, j < rs.length * 6 → (w.cell? ⟨b, j, none⟩).isSome = true := fun j hj => by
  obtain ⟨h0, h1, h2, h3, h4, h5⟩ := h (j / 6) (by omega)
  rcases (show j % 6 = 0 ∨ j % 6 = 1 ∨ j % 6 = 2 ∨ j % 6 = 3 ∨ j % 6 = 4 ∨ j % 6 = 5 by omega) with e | e | e | e | e | e
  · rw [show j = 0 + j / 6 * 6 by omega, h0]; rfl
  · rw [show j = 0 + j / 6 * 6 + 1 by omega, h1]; rfl
  · rw [show j = 0 + j / 6 * 6 + 2 by omega, h2]; rfl
  · rw [show j = 0 + j / 6 * 6 + 3 by omega, h3]; rfl
  · rw [show j = 0 + j / 6 * 6 + 4 by omega, h4]; rfl
  · rw [show j = 0 + j / 6 * 6 + 5 by omega, h5]; rfl

set_option maxHeartbeats 2000000 in
theorem markPrs_any (b n cap : Nat) (hn : n ≤ 1048576) (k0 : Nat) (hk : k0 ≤ 100000000) (hk1 : 1 ≤ k0) (w : World) (hM : Mk b (n * 6) w w) :
    Calls Try.prog 17 #[.slice (some ⟨b, 0, none⟩) n cap, .int .i64 (k0 : Int)] w fun e w' => e = .returned (.int .i64 ((k0 : Int) + (n : Int) * 6)) ∧ Mk b (n * 6) w w' := by
  have H0 : Hid (Mk b (n * 6) w w) := hM
  clear hM
  go_enter Try.func17, Try.ntmps17
  go_wp2
  go_loopw [1, 5] (fun k i wr => ∃ j : Nat, j ≤ n ∧ i = .int .i64 (j : Int) ∧ k = .int .i64 ((k0 : Int) + (j : Int) * 6) ∧ Mk b (n * 6) w wr) (fun _ i _ => n - (intOf i).toNat)
  case atStart => exact ⟨0, Nat.zero_le _, rfl, by simp, H0.out⟩
  case round =>
    obtain ⟨j, hj, rfl, rfl, hm⟩ := hrel
    have HM : Hid (Mk b (n * 6) w wr) := hm
    clear hm
    by_cases hlt : j < n
    · have hlt' : (j : Int) < (n : Int) := by omega
      have t0 := fun w => markText_any (k0 + j * 6) (by omega) (by omega) w
      have e0 : ((k0 + j * 6 : Nat) : Int) = (k0 : Int) + (j : Int) * 6 := by omega
      rw [e0] at t0
      clear e0
      generalize mkS (k0 + j * 6) = s0 at *
      have t1 := fun w => markText_any (k0 + j * 6 + 1) (by omega) (by omega) w
      have e1 : ((k0 + j * 6 + 1 : Nat) : Int) = (k0 : Int) + (j : Int) * 6 + 1 := by omega
      rw [e1] at t1
      clear e1
      generalize mkS (k0 + j * 6 + 1) = s1 at *
      go_wp2_with fail
      (first | go_at_call 38 | skip)
      refine (t0 _).mono ?_
      rintro e w0' ⟨rfl, hb0⟩
      have HM0 : Hid (Mk b (n * 6) w w0') := HM.out.later hb0
      obtain ⟨v0, hv0, hf0⟩ := HM0.out.at (j * 6) (by omega)
      clear hb0 t0
      go_wp2_with fail
      (first | go_at_call 38 | skip)
      refine (t1 _).mono ?_
      rintro e w1' ⟨rfl, hb1⟩
      have HM1 : Hid (Mk b (n * 6) w w1') := (HM0.out.set _ _).later hb1
      obtain ⟨v1, hv1, hf1⟩ := HM1.out.at (j * 6 + 1) (by omega)
      obtain ⟨v2, hv2, hf2⟩ := HM1.out.at (j * 6 + 2) (by omega)
      obtain ⟨v3, hv3, hf3⟩ := HM1.out.at (j * 6 + 3) (by omega)
      obtain ⟨v4, hv4, hf4⟩ := HM1.out.at (j * 6 + 4) (by omega)
      obtain ⟨v5, hv5, hf5⟩ := HM1.out.at (j * 6 + 5) (by omega)
      clear hb1 t1
      go_wp2
      exact ⟨⟨j + 1, by omega, by go_num, by go_num, ((((HM1.out.set _ _).set _ _).set _ _).set _ _).set _ _⟩, by simp [intOf]; omega⟩
    · obtain rfl : j = n := by omega
      go_wp2
      go_ret
      exact ⟨rfl, HM.out⟩
end Go.Proofs.Ytbkaikobjkkgkaa
