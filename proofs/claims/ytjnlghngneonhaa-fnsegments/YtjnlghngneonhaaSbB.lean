/-
  Contracts of the program's tagOK, Segment.right, segmentsOK, escapedBehind, writtenBehind and SegmentsText, for every list of segments.
-/
import Derived.Test.YtjnlghngneonhaaSbA
namespace Go.Proofs.Ytjnlghngneonhaa
open Go.ChangeShapes Go.WideShapes Go.ChangeAt Go.RowKit Go.Joins Go.Deep
set_option linter.unusedVariables false

theorem u8Info : (Try.prog.info? 5).map (fun i => (i.zero, i.size, i.bytes)) = some (some (.int .u8 0), 1, 1) := by kernel_rfl
theorem isMark_any (c : Int) (hc : 0 ≤ c) (hc' : c ≤ 255) (w : World) :
    Calls Try.prog 43 #[.int .i64 c] w fun e w' => e = .returned (.bool (mkB c)) ∧ w = w' := by
  rcases (by omega : c = 43 ∨ c = 63 ∨ c = 39 ∨ (c ≠ 43 ∧ c ≠ 63 ∧ c ≠ 39)) with rfl | rfl | rfl | ⟨h1, h2, h3⟩
  · go_enter Try.func43, Try.ntmps43
    go_wp2
    go_ret
    exact ⟨rfl, rfl⟩
  · go_enter Try.func43, Try.ntmps43
    go_wp2
    go_ret
    exact ⟨rfl, rfl⟩
  · go_enter Try.func43, Try.ntmps43
    go_wp2
    go_ret
    exact ⟨rfl, rfl⟩
  · have e : mkB c = false := by unfold mkB; simp [h1, h2, h3]
    rw [e]
    have b1 : (c == 43) = false := by simp [h1]
    have b2 : (c == 63) = false := by simp [h2]
    have b3 : (c == 39) = false := by simp [h3]
    go_enter Try.func43, Try.ntmps43
    go_wp2
    go_ret
    exact ⟨rfl, rfl⟩
theorem tagLetter_any (c : Int) (w : World) :
    Calls Try.prog 53 #[.int .i64 c] w fun e w' => e = .returned (.bool (letB c)) ∧ w = w' := by
  rcases in_ways c 65 90 with h | ⟨h1, h2⟩ | ⟨h1, h2⟩
  all_goals
    go_enter Try.func53, Try.ntmps53
    go_wp2
    go_ret
    exact ⟨ret_bool (by unfold letB; first | exact (decide_eq_false (by omega)).symm | exact (decide_eq_true (by omega)).symm | exact decide_eq_decide.mpr (by omega)), rfl⟩
theorem tag_ways (s : ByteArray) : (s.size ≠ 3 ∧ tagB s = false) ∨ (s.size = 3 ∧ tagB s = (letB ((byL s).getD 0 0) && letB ((byL s).getD 1 0) && letB ((byL s).getD 2 0))) := by
  by_cases h : s.size = 3
  · exact .inr ⟨h, by unfold tagB letB; rw [decide_eq_true h]; simp⟩
  · exact .inl ⟨h, by unfold tagB; rw [decide_eq_false h]; simp⟩
set_option maxHeartbeats 1000000 in
theorem tagOK_any (s : ByteArray) (hs : s.size ≤ 100000000) (w : World) :
    Calls Try.prog 50 #[.string s] w fun e w' => e = .returned (.bool (tagB s)) ∧ w = w' := by
  rcases tag_ways s with ⟨h, e⟩ | ⟨h, e⟩
  · rw [e]
    have l1 : ((s.size : Int) != 3) = true := by simp; omega
    go_enter Try.func50, Try.ntmps50
    go_wp2
    go_ret
    exact ⟨rfl, rfl⟩
  · rw [e]
    have l1 : ((s.size : Int) != 3) = false := by simp; omega
    have i0 : ∀ w, (Instr.index 9 (.string s) (.int .i64 0)).run Try.prog w = .ok (.int .u8 ((byL s).getD 0 0)) w := fun w => idx_any s 0 (by omega) w
    have i1 : ∀ w, (Instr.index 9 (.string s) (.int .i64 1)).run Try.prog w = .ok (.int .u8 ((byL s).getD 1 0)) w := fun w => idx_any s 1 (by omega) w
    have i2 : ∀ w, (Instr.index 9 (.string s) (.int .i64 2)).run Try.prog w = .ok (.int .u8 ((byL s).getD 2 0)) w := fun w => idx_any s 2 (by omega) w
    obtain ⟨p0, p1⟩ := byL_range s 0
    obtain ⟨q0, q1⟩ := byL_range s 1
    obtain ⟨r0, r1⟩ := byL_range s 2
    have T0 : Hid (∀ w, Calls Try.prog 53 #[.int .i64 ((byL s).getD 0 0)] w fun e w' => e = .returned (.bool (letB ((byL s).getD 0 0))) ∧ w = w') := fun w => tagLetter_any _ w
    have T1 : Hid (∀ w, Calls Try.prog 53 #[.int .i64 ((byL s).getD 1 0)] w fun e w' => e = .returned (.bool (letB ((byL s).getD 1 0))) ∧ w = w') := fun w => tagLetter_any _ w
    have T2 : Hid (∀ w, Calls Try.prog 53 #[.int .i64 ((byL s).getD 2 0)] w fun e w' => e = .returned (.bool (letB ((byL s).getD 2 0))) ∧ w = w') := fun w => tagLetter_any _ w
    generalize letB ((byL s).getD 0 0) = b0 at *
    generalize letB ((byL s).getD 1 0) = b1 at *
    generalize letB ((byL s).getD 2 0) = b2 at *
    generalize (byL s).getD 0 0 = c0 at *
    generalize (byL s).getD 1 0 = c1 at *
    generalize (byL s).getD 2 0 = c2 at *
    clear e h
    go_enter Try.func50, Try.ntmps50
    go_wp2
    refine wp_loop_rounds 4 ?_
    rw [rounds_succ]
    go_wp2_with fail
    (first | go_at_call 53 | skip)
    refine (T0.out _).mono ?_
    rintro e w2 ⟨rfl, rfl⟩
    cases b0
    · go_wp2_with fail
      go_ret
      exact ⟨rfl, rfl⟩
    go_wp2_with fail
    rw [rounds_succ]
    go_wp2_with fail
    (first | go_at_call 53 | skip)
    refine (T1.out _).mono ?_
    rintro e w2 ⟨rfl, rfl⟩
    cases b1
    · go_wp2_with fail
      go_ret
      exact ⟨rfl, rfl⟩
    go_wp2_with fail
    rw [rounds_succ]
    go_wp2_with fail
    (first | go_at_call 53 | skip)
    refine (T2.out _).mono ?_
    rintro e w2 ⟨rfl, rfl⟩
    cases b2
    · go_wp2_with fail
      go_ret
      exact ⟨rfl, rfl⟩
    go_wp2_with fail
    rw [rounds_succ]
    go_wp2_with fail
    go_ret
    exact ⟨rfl, rfl⟩

end Go.Proofs.Ytjnlghngneonhaa
