/-
  Contracts of the specification's l18Tag, l18Special, l18Segments and SegmentsText, for every list of segments.
-/
import Derived.Test.YtjnlghngneonhaaSbC
namespace Go.Proofs.Ytjnlghngneonhaa
open Go.ChangeShapes Go.WideShapes Go.ChangeAt Go.RowKit Go.Joins Go.Deep
set_option linter.unusedVariables false

theorem special_any (c : Int) (hc : 0 ≤ c) (hc' : c ≤ 255) (w : World) :
    Calls Try.prog 22 #[.int .u8 c] w fun e w' => e = .returned (.bool (mkB c)) ∧ w = w' := by
  rcases (by omega : c = 43 ∨ c = 63 ∨ c = 39 ∨ (c ≠ 43 ∧ c ≠ 63 ∧ c ≠ 39)) with rfl | rfl | rfl | ⟨h1, h2, h3⟩
  · go_enter Try.func22, Try.ntmps22
    go_wp2
    go_ret
    exact ⟨rfl, rfl⟩
  · go_enter Try.func22, Try.ntmps22
    go_wp2
    go_ret
    exact ⟨rfl, rfl⟩
  · go_enter Try.func22, Try.ntmps22
    go_wp2
    go_ret
    exact ⟨rfl, rfl⟩
  · have e : mkB c = false := by unfold mkB; simp [h1, h2, h3]
    rw [e]
    have b1 : (c == 43) = false := by simp [h1]
    have b2 : (c == 63) = false := by simp [h2]
    have b3 : (c == 39) = false := by simp [h3]
    go_enter Try.func22, Try.ntmps22
    go_wp2
    go_ret
    exact ⟨rfl, rfl⟩
set_option maxHeartbeats 2000000 in
theorem specTag_any (s : ByteArray) (hs : s.size ≤ 100000000) (w : World) :
    Calls Try.prog 38 #[.string s] w fun e w' => e = .returned (.bool (tagB s)) ∧ w = w' := by
  rcases tag_ways s with ⟨h, e⟩ | ⟨h, e⟩
  · rw [e]
    have l1 : ((s.size : Int) != 3) = true := by simp; omega
    go_enter Try.func38, Try.ntmps38
    go_wp2
    go_ret
    exact ⟨rfl, rfl⟩
  · rw [e]
    have l1 : ((s.size : Int) != 3) = false := by simp; omega
    have i0 : ∀ w, (Instr.index 9 (.string s) (.int .i64 0)).run Try.prog w = .ok (.int .u8 ((byL s).getD 0 0)) w := fun w => idx_any s 0 (by omega) w
    have i1 : ∀ w, (Instr.index 9 (.string s) (.int .i64 1)).run Try.prog w = .ok (.int .u8 ((byL s).getD 1 0)) w := fun w => idx_any s 1 (by omega) w
    have i2 : ∀ w, (Instr.index 9 (.string s) (.int .i64 2)).run Try.prog w = .ok (.int .u8 ((byL s).getD 2 0)) w := fun w => idx_any s 2 (by omega) w
    generalize (byL s).getD 0 0 = c0 at *
    generalize (byL s).getD 1 0 = c1 at *
    generalize (byL s).getD 2 0 = c2 at *
    clear e h
    unfold letB
    have hE : ∀ c : Int, c < 65 ∨ (65 ≤ c ∧ 90 < c) → decide (65 ≤ c ∧ c ≤ 90) = false := fun c h => decide_eq_false (by omega)
    have hY : ∀ c : Int, (65 ≤ c ∧ c ≤ 90) → decide (65 ≤ c ∧ c ≤ 90) = true := fun c h => decide_eq_true h
    rcases in_ways c0 65 90 with h0 | ⟨h0, h0'⟩ | ⟨h0, h0'⟩
    · rw [hE c0 (.inl h0)]
      clear hE hY
      go_enter Try.func38, Try.ntmps38
      go_wp2
      refine wp_loop_rounds 4 ?_
      rw [rounds_succ]
      go_wp2
      go_ret
      exact ⟨ret_bool (by simp), rfl⟩
    · rw [hE c0 (.inr ⟨h0, h0'⟩)]
      clear hE hY
      go_enter Try.func38, Try.ntmps38
      go_wp2
      refine wp_loop_rounds 4 ?_
      rw [rounds_succ]
      go_wp2
      go_ret
      exact ⟨ret_bool (by simp), rfl⟩
    rw [hY c0 ⟨h0, h0'⟩]
    rcases in_ways c1 65 90 with h1 | ⟨h1, h1'⟩ | ⟨h1, h1'⟩
    · rw [hE c1 (.inl h1)]
      clear hE hY
      go_enter Try.func38, Try.ntmps38
      go_wp2
      refine wp_loop_rounds 4 ?_
      rw [rounds_succ]
      go_wp2
      rw [rounds_succ]
      go_wp2
      go_ret
      exact ⟨ret_bool (by simp), rfl⟩
    · rw [hE c1 (.inr ⟨h1, h1'⟩)]
      clear hE hY
      go_enter Try.func38, Try.ntmps38
      go_wp2
      refine wp_loop_rounds 4 ?_
      rw [rounds_succ]
      go_wp2
      rw [rounds_succ]
      go_wp2
      go_ret
      exact ⟨ret_bool (by simp), rfl⟩
    rw [hY c1 ⟨h1, h1'⟩]
    rcases in_ways c2 65 90 with h2 | ⟨h2, h2'⟩ | ⟨h2, h2'⟩
    · rw [hE c2 (.inl h2)]
      clear hE hY
      go_enter Try.func38, Try.ntmps38
      go_wp2
      refine wp_loop_rounds 4 ?_
      rw [rounds_succ]
      go_wp2
      rw [rounds_succ]
      go_wp2
      rw [rounds_succ]
      go_wp2
      go_ret
      exact ⟨ret_bool (by simp), rfl⟩
    · rw [hE c2 (.inr ⟨h2, h2'⟩)]
      clear hE hY
      go_enter Try.func38, Try.ntmps38
      go_wp2
      refine wp_loop_rounds 4 ?_
      rw [rounds_succ]
      go_wp2
      rw [rounds_succ]
      go_wp2
      rw [rounds_succ]
      go_wp2
      go_ret
      exact ⟨ret_bool (by simp), rfl⟩
    rw [hY c2 ⟨h2, h2'⟩]
    clear hE hY
    go_enter Try.func38, Try.ntmps38
    go_wp2
    refine wp_loop_rounds 4 ?_
    rw [rounds_succ]
    go_wp2
    rw [rounds_succ]
    go_wp2
    rw [rounds_succ]
    go_wp2
    rw [rounds_succ]
    go_wp2
    go_ret
    exact ⟨rfl, rfl⟩
set_option maxHeartbeats 4000000 in
set_option maxRecDepth 8000 in
theorem specSegments_any (a : Option Addr) (cap : Nat) (cs : List CSg) (hl : cs.length ≤ 100000000) (hp : ∀ r ∈ cs, SgOK r) (w : World) (hr : ReadsSg w.heap.size w a cs) :
    Calls Try.prog 21 #[.slice a cs.length cap] w fun e w' => e = .returned (.bool (sgsB cs)) ∧ w = w' := by
  have HR : Hid (ReadsSg w.heap.size w a cs) := hr
  have HOK : Hid (∀ r ∈ cs, SgOK r) := hp
  clear hr hp
  by_cases h200 : 200 < cs.length
  · have l1 : (200 : Int) < (cs.length : Int) := by omega
    have e : sgsB cs = false := by unfold sgsB; rw [decide_eq_false (by omega)]; rfl
    rw [e]
    go_enter Try.func21, Try.ntmps21
    go_wp2
    go_ret
    exact ⟨rfl, rfl⟩
  have l1 : ¬ (200 : Int) < (cs.length : Int) := by omega
  have HBad : Hid (cs.all sgB = false → sgsB cs = false) := fun h => by unfold sgsB; rw [h]; simp
  have HGood : Hid (cs.all sgB = true → sgsB cs = true) := fun h => by unfold sgsB; rw [h, decide_eq_true (by omega)]; rfl
  go_enter Try.func21, Try.ntmps21
  go_wp2
  go_loopw [3, 4] (fun c _ wr => ∃ k : Nat, k ≤ cs.length ∧ c = .int .i64 (k : Int) ∧ (cs.take k).all sgB = true ∧ w = wr) (fun c _ _ => cs.length - (intOf c).toNat)
  case atStart => exact ⟨0, Nat.zero_le _, rfl, rfl, rfl⟩
  case round =>
    obtain ⟨k, hk, rfl, hf, hw⟩ := hrel
    subst hw
    have HF : Hid ((cs.take k).all sgB = true) := hf
    clear hf
    by_cases hlt : k < cs.length
    · have hlt' : (k : Int) < (cs.length : Int) := by omega
      rcases HR.out with h | ⟨b0, o0, ha, hB0, ia⟩
      · rw [h] at hlt; simp at hlt
      obtain ⟨h, cp, ⟨c0, c1⟩, hcp, hS⟩ := ia k hlt
      obtain ⟨k1, k2, k3⟩ := getSg HOK.out hlt
      have HS : Hid (ReadsS w.heap.size w h (cs.getD k zSg).ps) := hS
      have HFl : Hid (sgB (cs.getD k zSg) = false → sgsB cs = false) := fun h => HBad.out (sgb_fail hlt h)
      have HN : Hid ((cs.take (k + 1)).all sgB = ((cs.take k).all sgB && sgB (cs.getD k zSg))) := sgb_take cs k hlt
      have HT : Hid (∀ W, Calls Try.prog 38 #[.string (cs.getD k zSg).nm] W fun e w' => e = .returned (.bool (tagB (cs.getD k zSg).nm)) ∧ W = w') := fun W => specTag_any _ (by omega) W
      have HE : Hid (sgB (cs.getD k zSg) = (decide ((cs.getD k zSg).ps.length ≤ 20) && (tagB (cs.getD k zSg).nm && prsB (cs.getD k zSg).ps))) := rfl
      have HK3 : Hid (∀ s ∈ (cs.getD k zSg).ps, s.size ≤ 2000000) := k3
      rw [ha]
      clear ia hS hcp k3
      generalize cs.getD k zSg = r at *
      obtain ⟨nm, ps⟩ := r
      dsimp only at *
      generalize sgB ⟨nm, ps⟩ = sb at *
      generalize tagB nm = b1 at *
      cases b1
      · have HX : Hid (sgsB cs = false) := HFl.out (by rw [HE.out]; simp)
        go_wp2_with (go_at_call 38; refine (HT.out _).mono ?_; rintro e w2 ⟨rfl, rfl⟩)
        go_ret
        exact ⟨ret_bool HX.out.symm, rfl⟩
      by_cases h20 : ps.length ≤ 20
      · have l2 : ¬ (20 : Int) < (ps.length : Int) := by omega
        have HE2 : Hid (sb = prsB ps) := by show sb = _; rw [HE.out, decide_eq_true h20]; simp
        clear HE
        go_wp2_with (go_at_call 38; refine (HT.out _).mono ?_; rintro e w2 ⟨rfl, rfl⟩)
        obtain ⟨wo, rfl⟩ : ∃ wo, wo = w := ⟨_, rfl⟩
        go_loopw [4] (fun c wr => ∃ m : Nat, m ≤ ps.length ∧ c = .int .i64 (m : Int) ∧ prsB (ps.take m) = true ∧ wo = wr) (fun c _ => ps.length - (intOf c).toNat)
        case atStart => exact ⟨0, Nat.zero_le _, rfl, rfl, rfl⟩
        case round =>
          obtain ⟨m, hm, rfl, hf2, hw2⟩ := hrel
          subst hw2
          have HF2 : Hid (prsB (ps.take m) = true) := hf2
          clear hf2
          by_cases hlm : m < ps.length
          · have hlm' : (m : Int) < (ps.length : Int) := by omega
            rcases HS.out with h' | ⟨b1, o1, hb, hB1, ib⟩
            · rw [h'] at hlm; simp at hlm
            have d0 := ib m hlm
            have HP1 : Hid (¬ (ps.getD m ByteArray.empty).size ≤ 80 → sgsB cs = false) := fun h => HFl.out (by rw [HE2.out]; exact prs_fail hlm h)
            have HP2 : Hid ((ps.getD m ByteArray.empty).size ≤ 80 → prsB (ps.take (m + 1)) = true) := fun h => by rw [prs_take ps m hlm, HF2.out, decide_eq_true h]; rfl
            have hq := getS HK3.out hlm
            rw [hb] at c1
            clear ib
            generalize ps.getD m ByteArray.empty = s at *
            by_cases h80 : s.size ≤ 80
            · have l3 : ¬ (80 : Int) < (s.size : Int) := by omega
              have HP3 : Hid (prsB (ps.take (m + 1)) = true) := HP2.out h80
              clear HP1 HP2
              go_wp2
              go_roundw
              case rel => exact ⟨m + 1, by omega, by go_num, HP3.out, by trivial⟩
              case measure => simp [intOf]; omega
            · have l3 : (80 : Int) < (s.size : Int) := by omega
              have HP3 : Hid (sgsB cs = false) := HP1.out h80
              clear HP1 HP2
              go_wp2
              go_ret
              exact ⟨ret_bool HP3.out.symm, rfl⟩
          · have hle : ¬ (m : Int) < (ps.length : Int) := by omega
            have HP3 : Hid ((cs.take (k + 1)).all sgB = true) := by
              show _ = _
              have := HF2.out
              rw [List.take_of_length_le (by omega)] at this
              rw [HN.out, HF.out, HE2.out, this]; rfl
            go_wp2
            go_roundw
            case rel => exact ⟨k + 1, by omega, by go_num, HP3.out, by trivial⟩
            case measure => simp [intOf]; omega
      · have l2 : (20 : Int) < (ps.length : Int) := by omega
        have HX : Hid (sgsB cs = false) := HFl.out (by rw [HE.out, decide_eq_false h20]; simp)
        go_wp2_with (go_at_call 38; refine (HT.out _).mono ?_; rintro e w2 ⟨rfl, rfl⟩)
        go_ret
        exact ⟨ret_bool HX.out.symm, rfl⟩
    · have hle : ¬ (k : Int) < (cs.length : Int) := by omega
      have HX : Hid (sgsB cs = true) := HGood.out (by have := HF.out; rwa [List.take_of_length_le (by omega)] at this)
      go_wp2
      go_ret
      exact ⟨ret_bool HX.out.symm, rfl⟩
end Go.Proofs.Ytjnlghngneonhaa
