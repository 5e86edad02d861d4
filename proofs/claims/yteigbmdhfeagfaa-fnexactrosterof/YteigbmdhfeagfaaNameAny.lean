/-
  Contracts of NameOK (the specification's and the program's), for every text.
-/
import Derived.Test.YteigbmdhfeagfaaName2
namespace Go.Proofs.Yteigbmdhfeagfaa
open Go.ChangeShapes Go.WideShapes Go.ChangeAt Go.RowKit
open Go.ChangeMaps (open_string shut_string)
set_option linter.unusedVariables false

/-- Is a text a name? -/
def nameB (s : ByteArray) : Bool := decide (1 ≤ s.size ∧ s.size ≤ 40) && goes s s.size 0

theorem specName_any (s : ByteArray) (hs : s.size ≤ maxLen) (w : World) :
    Calls Try.prog 25 #[.string s] w fun e w' => e = .returned (.bool (nameB s)) ∧ w' = w := by
  have hs' := hs
  unfold maxLen at hs
  rcases in_ways (s.size : Int) 1 40 with h | ⟨h, h'⟩ | ⟨h, h'⟩
  · have e : nameB s = false := by unfold nameB; rw [decide_eq_false (by omega)]; rfl
    rw [e]
    have hz : (s.size : Int) ≤ 0 := by omega
    go_enter Try.func25, Try.ntmps25
    go_wp2
    go_ret
    exact ⟨rfl, rfl⟩
  · have e : nameB s = false := by unfold nameB; rw [decide_eq_false (by omega)]; rfl
    rw [e]
    have hz : (0 : Int) < (s.size : Int) := by omega
    go_enter Try.func25, Try.ntmps25
    go_wp2
    go_ret
    exact ⟨rfl, rfl⟩
  · have e : nameB s = goes s s.size 0 := by unfold nameB; rw [decide_eq_true (by omega)]; rfl
    rw [e]
    have hz : (0 : Int) < (s.size : Int) := by omega
    have hw := fun w => word_any s hs' w
    go_enter Try.func25, Try.ntmps25
    go_wp2_with (go_at_call 51; refine (hw _).mono ?_; rintro e w' ⟨k, rfl, hk, hi, rfl⟩)
    go_ret
    refine ⟨ret_bool ?_, rfl⟩
    rw [Bool.eq_iff_iff, ← hi]
    simp; omega

set_option maxHeartbeats 1000000 in
theorem implName_any (s : ByteArray) (hs : s.size ≤ maxLen) (w : World) :
    Calls Try.prog 59 #[.string s] w fun e w' => e = .returned (.bool (nameB s)) ∧ Below w.heap.size w w' := by
  have hs' := hs
  unfold maxLen at hs
  rcases in_ways (s.size : Int) 1 40 with h | ⟨h, h'⟩ | ⟨h, h'⟩
  · have e : nameB s = false := by unfold nameB; rw [decide_eq_false (by omega)]; rfl
    rw [e]
    go_enter Try.func59, Try.ntmps59
    go_wp2
    go_ret
    exact ⟨rfl, Below.refl _ _⟩
  · have e : nameB s = false := by unfold nameB; rw [decide_eq_false (by omega)]; rfl
    rw [e]
    go_enter Try.func59, Try.ntmps59
    go_wp2
    go_ret
    exact ⟨rfl, Below.refl _ _⟩
  · have e : nameB s = goes s s.size 0 := by unfold nameB; rw [decide_eq_true (by omega)]; rfl
    rw [e]
    go_enter Try.func59, Try.ntmps59
    go_wp2
    go_loopw [3, 4] (fun a r w' => ∃ pos f : Nat, w' = w.iter s pos ∧ pos ≤ s.size ∧ goes s f pos = goes s s.size 0 ∧ s.size ≤ pos + f) (fun _ _ w' => s.size - w'.iterPos w.heap.size)
    case atStart => exact ⟨0, s.size, rfl, Nat.zero_le _, rfl, by omega⟩
    case round =>
      obtain ⟨pos, f, rfl, hpos, hg, hf⟩ := hrel
      have HG : Hid (goes s f pos = goes s s.size 0) := hg
      clear hg
      by_cases hp : pos < s.size
      · obtain ⟨f, rfl⟩ : ∃ g, f = g + 1 := ⟨f - 1, by omega⟩
        have hnx : ∀ ty, (Instr.next (.pointer (some ⟨w.heap.size, 0, none⟩)) true ty).run Try.prog (w.iter s pos) = _ := fun ty => run_next_any w s pos ty hp
        have hle := stepA_le s pos hp
        have hst := goes_step s f pos hp
        have hsp := goes_stop s f pos hp
        have HW := dec_ways s pos hp
        generalize ((Utf8.decode s pos).1 : Int) = r at *
        generalize (Utf8.decode s pos).2 = wd at *
        rcases HW with ⟨h0, rfl, hr | ⟨hr, hp0, hd⟩⟩ | ⟨h0, hr, hd⟩
        · have H' : Hid (goes s f (pos + stepA s pos) = goes s s.size 0) := (hst h0).symm.trans HG.out
          have hpp : Hid (stepA s pos ≠ 0) := h0
          clear hst hsp h0
          go_wp2_with (first | (go_at_call 73; refine (letR_any _ _).mono ?_; rintro e w' ⟨rfl, rfl⟩) | (go_at_call 74; refine (digR_any _ _).mono ?_; rintro e w' ⟨rfl, rfl⟩))
          go_roundw
          case rel => exact ⟨pos + stepA s pos, f, rfl, hle, H'.out, by have := hpp.out; omega⟩
          case measure => simp; have := hpp.out; omega
        · have H' : Hid (goes s f (pos + stepA s pos) = goes s s.size 0) := (hst h0).symm.trans HG.out
          have hpp : Hid (stepA s pos ≠ 0) := h0
          have hp1 : ((pos : Int) == 0) = false := by simp; omega
          clear hst hsp h0
          go_wp2_with (first | (go_at_call 73; refine (letR_any _ _).mono ?_; rintro e w' ⟨rfl, rfl⟩) | (go_at_call 74; refine (digR_any _ _).mono ?_; rintro e w' ⟨rfl, rfl⟩))
          go_roundw
          case rel => exact ⟨pos + stepA s pos, f, rfl, hle, H'.out, by have := hpp.out; omega⟩
          case measure => simp; have := hpp.out; omega
        · have H' : Hid (false = goes s s.size 0) := (hsp h0).symm.trans HG.out
          clear hst hsp h0
          by_cases hz : pos = 0
          · subst hz
            go_wp2_with (first | (go_at_call 73; refine (letR_any _ _).mono ?_; rintro e w' ⟨rfl, rfl⟩) | (go_at_call 74; refine (digR_any _ _).mono ?_; rintro e w' ⟨rfl, rfl⟩))
            go_ret
            exact ⟨ret_bool H'.out, below_alloc _ _⟩
          · have hd' : digR r = false := by rcases hd with h | h; exact absurd h hz; exact h
            have hp1 : ((pos : Int) == 0) = false := by simp; omega
            clear hd
            go_wp2_with (first | (go_at_call 73; refine (letR_any _ _).mono ?_; rintro e w' ⟨rfl, rfl⟩) | (go_at_call 74; refine (digR_any _ _).mono ?_; rintro e w' ⟨rfl, rfl⟩))
            go_ret
            exact ⟨ret_bool H'.out, below_alloc _ _⟩
      · have hnx : ∀ ty, (Instr.next (.pointer (some ⟨w.heap.size, 0, none⟩)) true ty).run Try.prog (w.iter s pos) = _ := fun ty => run_next_end w s pos ty hp
        have H' : Hid (true = goes s s.size 0) := (goes_end s f pos (by omega)).symm.trans HG.out
        go_wp2
        go_ret
        exact ⟨ret_bool H'.out, below_alloc _ _⟩

end Go.Proofs.Yteigbmdhfeagfaa
