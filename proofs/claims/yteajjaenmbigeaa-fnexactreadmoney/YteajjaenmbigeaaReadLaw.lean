/-
  For every text the law FnExactReadMoney answers true: the program's ReadMoney answers as the specification's, at every argument, with no condition.
-/
import Derived.Test.YteajjaenmbigeaaReadSpec
namespace Go.Proofs.Yteajjaenmbigeaa
open Go.ChangeShapes Go.WideShapes Go.ChangeAt Go.RowKit
open Go.ChangeMaps (open_string shut_string)
set_option linter.unusedVariables false

theorem rm_bad {L : List UInt8} (h : L.length ≤ 65536) (hk : okU (strip L) = false) : rm1 L = 0 ∧ rm2 L = 4 := by
  obtain ⟨r1, r2⟩ := rm_small h
  have : rmOK L = false := by unfold rmOK; rw [hk]; rfl
  rw [r1, r2, this]; exact ⟨rfl, rfl⟩

theorem byte_bounds (c : UInt8) : 0 ≤ (c.toNat : Int) ∧ (c.toNat : Int) ≤ 255 := by have := c.toNat_lt; omega

set_option maxHeartbeats 1600000 in
theorem specRead_any (s : ByteArray) (hs : s.size ≤ maxLen) (w : World) :
    Calls Try.prog 4 #[.string s] w fun e w' => e = .returned (.tuple #[.int .i64 (rm1 s.data.toList), .int .i64 (rm2 s.data.toList)]) ∧ w' = w := by
  have hlen : s.data.toList.length = s.size := by simp
  unfold maxLen at hs
  by_cases hL : (65536 : Int) < (s.size : Int)
  · unfold rm1 rm2
    rw [if_pos (by omega), if_pos (by omega)]
    clear hlen
    go_enter Try.func4, Try.ntmps4
    go_wp2
    go_ret2
    exact ⟨rfl, rfl⟩
  · by_cases h4 : (s.size : Int) < 4
    · obtain ⟨r1, r2⟩ := rm_bad (L := s.data.toList) (by omega) (strip_short _ (by omega))
      rw [r1, r2]
      clear hlen
      go_enter Try.func4, Try.ntmps4
      go_wp2
      go_ret2
      exact ⟨rfl, rfl⟩
    · have e3 := getD_at s (s.size - 3) (by omega)
      have e2 := getD_at s (s.size - 2) (by omega)
      have e1 := getD_at s (s.size - 1) (by omega)
      have hi3 := fun w => run_index_at s (s.size - 3) ((s.size : Int) - 3) (by omega) (by omega) w
      have hi2 := fun w => run_index_at s (s.size - 2) ((s.size : Int) - 2) (by omega) (by omega) w
      have hi1 := fun w => run_index_at s (s.size - 1) ((s.size : Int) - 1) (by omega) (by omega) w
      have hok := spec_ok s.data.toList (by omega)
      have hval := spec_val s.data.toList (by omega)
      rw [hlen] at hok hval
      rw [e3, e2, e1] at hok
      rw [e2, e1] at hval
      have hb2 := byte_bounds s[s.size - 2]
      have hb1 := byte_bounds s[s.size - 1]
      by_cases h46 : (s[s.size - 3].toNat : Int) = 46
      · rw [h46] at hi3
        have h46' : s[s.size - 3].toNat = 46 := by omega
        obtain ⟨r1, r2⟩ := rm_small (L := s.data.toList) (by omega)
        rw [r1, r2, ← ite_two]
        unfold rmOK rmV
        rw [decide_eq_true h46', Bool.true_and, wt_mono] at hok
        have hslH := fun w => run_slice_pre s (s.size - 3) ((s.size : Int) - 3) (by omega) (by omega) (by omega) w
        have hHl : (s.extract 0 (s.size - 3)).data.toList = s.data.toList.take (s.size - 3) := by rw [Lib.extract_data]; simp
        have hHs : (s.extract 0 (s.size - 3)).size = s.size - 3 := by simp
        have hp : 0 < s.size := by omega
        have hH0 : 0 < (s.extract 0 (s.size - 3)).size := by omega
        have hh0 : (s.extract 0 (s.size - 3))[0]'hH0 = s[0]'hp := by
          have a1 := getD_at (s.extract 0 (s.size - 3)) 0 hH0
          have a2 := getD_at s 0 hp
          rw [← a1, ← a2, hHl, getD_take (by omega)]
        by_cases hd : s[0].toNat = 45
        · obtain ⟨hn, hst⟩ := neg_of s hp hd
          have hstl : (strip s.data.toList).length = s.size - 1 := by rw [← hst]; simp
          have hG : ((s.extract 0 (s.size - 3)).extract 1 (s.extract 0 (s.size - 3)).size).data.toList = (strip s.data.toList).take ((strip s.data.toList).length - 3) := by
            rw [Lib.extract_to_end, hHl, hstl]
            unfold strip
            rw [if_pos hn, ← List.drop_one, List.drop_take]
            congr 1
          have hGs : ((s.extract 0 (s.size - 3)).extract 1 (s.extract 0 (s.size - 3)).size).size ≤ 65536 := by simp; omega
          have h45 : (((s.extract 0 (s.size - 3))[0]'hH0).toNat : Int) = 45 := by rw [hh0]; omega
          have hH0' : ∀ w, (Instr.index 9 (.string (s.extract 0 (s.size - 3))) (.int .i64 0)).run Try.prog w = .ok (.int .u8 45) w := fun w => (run_index_zero (s.extract 0 (s.size - 3)) hH0 w).trans (congrArg (fun x => Result.ok (Value.int .u8 x) w) h45)
          have hslG := fun w => run_slice_rest (s.extract 0 (s.size - 3)) hH0 (by omega) w
          rw [hn]
          rw [← hG] at hok hval
          exact specRead_neg s _ _ (by omega) (by omega) _ _ _ _ hi3 hi2 hi1 hb2.1 hb2.2 hb1.1 hb1.2 hslH hGs hok hval hH0' hslG w
        · have hd' : ∀ hp : 0 < s.size, s[0].toNat ≠ 45 := fun _ => hd
          obtain ⟨hn, hst⟩ := pos_of s hd'
          have hG : (s.extract 0 (s.size - 3)).data.toList = (strip s.data.toList).take ((strip s.data.toList).length - 3) := by
            rw [hHl, ← hst, hlen]
          rw [hn]
          rw [← hG] at hok hval
          refine specRead_pos s _ (by omega) (by omega) _ _ _ _ hi3 hi2 hi1 hb2.1 hb2.2 hb1.1 hb1.2 hslH (by omega) hok hval hH0 (fun h => ?_) w
          rw [hh0]
          have : (s[0].toNat : Int) ≠ 45 := by omega
          simpa using this
      · have hbad : okU (strip s.data.toList) = false := by rw [hok, decide_eq_false (show ¬ s[s.size - 3].toNat = 46 by omega)]; rfl
        obtain ⟨r1, r2⟩ := rm_bad (L := s.data.toList) (by omega) hbad
        rw [r1, r2]
        have h46' : ((s[s.size - 3].toNat : Int) != 46) = true := by simpa using h46
        clear hok hval hbad hi2 hi1 hb2 hb1 e3 e2 e1 h46
        generalize (s[s.size - 3].toNat : Int) = p at *
        clear hlen
        have h4' : (4 : Int) ≤ (s.size : Int) := by omega
        go_enter Try.func4, Try.ntmps4
        go_wp2
        go_ret2
        exact ⟨rfl, rfl⟩

namespace ReadLaw
theorem walk (s : ByteArray) (hs : s.size ≤ maxLen) (w : World) :
    Calls Try.prog 3 #[.string s] w fun e w' => e = .returned (.bool true) ∧ Below w.heap.size w w' := by
  have hs' := hs
  unfold maxLen at hs
  by_cases h : (1048576 : Int) < (s.size : Int)
  · go_enter Try.func3, Try.ntmps3
    go_wp2
    go_ret
    exact ⟨rfl, Below.refl _ _⟩
  · have h1 := fun w => specRead_any s hs' w
    have h2 := fun w => implRead_any s hs' w
    generalize rm1 s.data.toList = x at *
    generalize rm2 s.data.toList = y at *
    go_enter Try.func3, Try.ntmps3
    go_wp2_with (first | (go_at_call 4; refine (h1 _).mono ?_; rintro e w' ⟨rfl, rfl⟩) | (go_at_call 5; refine (h2 _).mono ?_; rintro e w2 ⟨rfl, hb2⟩))
    go_ret
    exact ⟨rfl, hb2⟩

theorem own : ownKnob Try.prog.godebug = none := by kernel_rfl
theorem laidOut : laidOutB Try.prog = true := by kernel_rfl

set_option maxRecDepth 100000 in
theorem lifted (os : Os) (started : os.Started) (H : Type) (enc : TypeId × Value → H) :
    ReturnsInHanded {} Try.checked os 3 .any (Rows.fnExactReadMoneySpec.pre6 enc Try.prog Try.f3 Rows.fnExactReadMoneyRow.domain false) (Rows.fnExactReadMoneySpec.post enc Try.prog Try.f3 false true false false) := by
  refine returnsInHanded_of_change (C := Try.checked) own started (by kernel_rfl) Try.func3
    (ChangeSpec.witness6 (enc := enc) (C := Try.checked) false ⟨#[], #[.string ByteArray.empty], []⟩ 8 (by kernel_rfl) (by kernel_rfl) (by kernel_rfl) (by kernel_rfl)) ?_
  intro W base args ds gs before hval0 hW hcnd _
  have hval : ∀ (j : Nat) t v, Try.f3.params[j]? = some t → args[j]? = some v → Value.okWide Try.prog W .any base t v := hval0
  have hW' := hW
  obtain ⟨p, q, hA0, hV, rfl, hfz, hnd⟩ := hW
  have hA : DataW.TrodAll enc Try.prog W 0 (fun _ => true) true Try.f3.params.toList args.toList ds p := hA0
  rw [Try.params3] at hA hval
  obtain ⟨v0, vs0, d0, ds0, p0, q0, hargs, rfl, rfl, h0, r0⟩ := trodAll_cons hA
  obtain ⟨rfl, rfl, rfl⟩ := trodAll_nil r0
  obtain rfl : args = #[v0] := by cases args; simp_all
  obtain ⟨rfl, rfl⟩ := trodVars_none hV
  have k0 := h0
  have lt0 : ∀ x ∈ p0, x.block < W.heap.size := by obtain ⟨m, hm⟩ := k0; exact DataW.trod_lt m _ _ _ hm
  obtain ⟨a0, rfl, rfl, rfl, w0⟩ := open_string Try.underlying9 (hval 0 9 v0 rfl rfl) h0
  clear hA0 hval0
  refine (walk a0 w0 W ).mono fun e W' ⟨he, bel⟩ => ?_
  subst he
  exact ⟨_, rfl, _, _, _, [], _, [], hW', trodAll_mk1 (shut_bool Try.underlying4 _), (trodAll_cons_mk (Below.trod laidOut (by kernel_rfl) (of_decide_eq_true (by kernel_rfl)) k0 bel lt0) trodAll_mk0), rfl, bel.frame _, fun h => by cases h⟩

theorem over : Rows.fnExactReadMoneyRow.holds Try.pinned (OpenSpec.ofChange Rows.fnExactReadMoneySpec) :=
  OpenClaim.holds_of_wide 3 Try.f3 rfl rfl rfl rfl rfl rfl rfl ⟨rfl, rfl, rfl, rfl, rfl⟩ rfl rfl rfl rfl rfl (by kernel_rfl) Try.func3 (by kernel_rfl)
    (of_decide_eq_true (by kernel_rfl)) (by unfold Func.isWrapper; first | (rw [if_pos (by decide +kernel)]; kernel_rfl) | (rw [if_neg (by decide +kernel)]; exact ⟨rfl, rfl⟩))
    (fun os started H enc _ => lifted os started H enc)
end ReadLaw

theorem fnExactReadMoney_holds : Rows.FnExactReadMoneySaid := ReadLaw.over
end Go.Proofs.Yteajjaenmbigeaa
