/-
  The laws' own markShiftS turns one block alone.
-/
import Derived.Test.YteigbmdhfeagfaaSfE
import Derived.Test.YteigbmdhfeagfaaMark0
import Derived.Test.YteigbmdhfeagfaaMarkText
namespace Go.Proofs.Yteigbmdhfeagfaa
open Go.ChangeShapes Go.WideShapes Go.ChangeAt Go.RowKit Go.Deep
set_option linter.unusedVariables false

theorem sfs_some {w : World} {b : Nat} {rs : List RSf} (h : SfsAt w b 0 rs) : ∀ j, j < rs.length * 3 → (w.cell? ⟨b, j, none⟩).isSome = true := fun j hj => by
  obtain ⟨h0, h1, h2⟩ := h (j / 3) (by omega)
  rcases (show j % 3 = 0 ∨ j % 3 = 1 ∨ j % 3 = 2 by omega) with e | e | e
  · rw [show j = 0 + j / 3 * 3 by omega, h0]; rfl
  · rw [show j = 0 + j / 3 * 3 + 1 by omega, h1]; rfl
  · rw [show j = 0 + j / 3 * 3 + 2 by omega, h2]; rfl

set_option maxHeartbeats 2000000 in
theorem markSfs_any (b n cap : Nat) (hn : n ≤ 1048576) (k0 : Nat) (hk : k0 ≤ 100000000) (hk1 : 1 ≤ k0) (w : World) (hM : Mk b (n * 3) w w) :
    Calls Try.prog 18 #[.slice (some ⟨b, 0, none⟩) n cap, .int .i64 (k0 : Int)] w fun e w' => e = .returned (.int .i64 ((k0 : Int) + (n : Int) * 3)) ∧ Mk b (n * 3) w w' := by
  have H0 : Hid (Mk b (n * 3) w w) := hM
  clear hM
  go_enter Try.func18, Try.ntmps18
  go_wp2
  go_loopw [1, 5] (fun k i wr => ∃ j : Nat, j ≤ n ∧ i = .int .i64 (j : Int) ∧ k = .int .i64 ((k0 : Int) + (j : Int) * 3) ∧ Mk b (n * 3) w wr) (fun _ i _ => n - (intOf i).toNat)
  case atStart => exact ⟨0, Nat.zero_le _, rfl, by simp, H0.out⟩
  case round =>
    obtain ⟨j, hj, rfl, rfl, hm⟩ := hrel
    have HM : Hid (Mk b (n * 3) w wr) := hm
    clear hm
    by_cases hlt : j < n
    · have hlt' : (j : Int) < (n : Int) := by omega
      have t2 := fun w => markText_any (k0 + j * 3 + 2) (by omega) (by omega) w
      have e2 : ((k0 + j * 3 + 2 : Nat) : Int) = (k0 : Int) + (j : Int) * 3 + 1 + 1 := by omega
      rw [e2] at t2
      clear e2
      generalize mkS (k0 + j * 3 + 2) = s2 at *
      obtain ⟨v0, hv0, hf0⟩ := HM.out.at (j * 3) (by omega)
      obtain ⟨v1, hv1, hf1⟩ := HM.out.at (j * 3 + 1) (by omega)
      go_wp2_with fail
      (first | go_at_call 47 | skip)
      refine (t2 _).mono ?_
      rintro e w2' ⟨rfl, hb2⟩
      have HM2 : Hid (Mk b (n * 3) w w2') := ((HM.out.set _ _).set _ _).later hb2
      obtain ⟨v2, hv2, hf2⟩ := HM2.out.at (j * 3 + 2) (by omega)
      clear hb2 t2
      go_wp2
      exact ⟨⟨j + 1, by omega, by go_num, by go_num, HM2.out.set _ _⟩, by simp [intOf]; omega⟩
    · obtain rfl : j = n := by omega
      go_wp2
      go_ret
      exact ⟨rfl, HM.out⟩
end Go.Proofs.Yteigbmdhfeagfaa
