/-
  Contract of the specification's ReadMoney: for every text.
-/
import Derived.Test.YteajjaenmbigeaaReadImpl
namespace Go.Proofs.Yteajjaenmbigeaa
open Go.ChangeShapes Go.WideShapes Go.ChangeAt Go.RowKit
set_option linter.unusedVariables false

theorem in_dig (a : Int) : inB (a - 48) 0 9 = digR a := by unfold inB digR; exact decide_eq_decide.mpr (by omega)
theorem run_slice_pre (s : ByteArray) (k : Nat) (i : Int) (hk : k ≤ s.size) (hs : s.size ≤ 9223372036854775807) (hi : i = (k : Int)) (w : World) :
    (Instr.slice 9 (.string s) none (some (.int .i64 i)) none).run Try.prog w = .ok (.string (s.extract 0 k)) w := by
  subst hi
  simp [go_sem]
  omega

set_option maxHeartbeats 1600000 in
theorem specRead_pos (s G : ByteArray) (n3 : 4 ≤ s.size) (hs : (s.size : Int) ≤ 65536) (a c v : Int) (ok : Bool)
    (hi3 : ∀ w, (Instr.index 9 (.string s) (.int .i64 ((s.size : Int) - 3))).run Try.prog w = .ok (.int .u8 46) w)
    (hi2 : ∀ w, (Instr.index 9 (.string s) (.int .i64 ((s.size : Int) - 2))).run Try.prog w = .ok (.int .u8 a) w)
    (hi1 : ∀ w, (Instr.index 9 (.string s) (.int .i64 ((s.size : Int) - 1))).run Try.prog w = .ok (.int .u8 c) w)
    (a0 : 0 ≤ a) (a1 : a ≤ 255) (c0 : 0 ≤ c) (c1 : c ≤ 255)
    (hslH : ∀ w, (Instr.slice 9 (.string s) none (some (.int .i64 ((s.size : Int) - 3))) none).run Try.prog w = .ok (.string G) w)
    (hGs : G.size ≤ 65536)
    (hok : ok = (wt 18 G.data.toList && decide (G.data.toList.length ≤ 15) && digR a && digR c))
    (hval : v = 100 * num G.data.toList + 10 * (a - 48) + (c - 48))
    (hp0 : 0 < G.size) (hg45 : ∀ h : 0 < G.size, ((G[0].toNat : Int) == 45) = false) (w : World) :
    Calls Try.prog 4 #[.string s] w fun e w' => e = .returned (if (ok && !(false && decide (v = 0))) = true then .tuple #[.int .i64 (told1 (signV v false)), .int .i64 (told2 (signV v false))] else .tuple #[.int .i64 0, .int .i64 4]) ∧ w' = w := by
  have hnum := fun w => number_plain G (by unfold maxLen; omega) hg45 w
  have hH0 := fun w => run_index_zero G hp0 w
  have hd := hg45 hp0
  have n3' : (4 : Int) ≤ (s.size : Int) := by omega
  have hp3 : ((46 : Int) != 46) = false := rfl
  clear hg45
  cases hW : wt 18 G.data.toList
  · rw [hW] at hnum hok
    simp only [Bool.false_and] at hok
    rw [hok]
    simp only [Bool.false_and, Bool.false_eq_true, if_false]
    go_enter Try.func4, Try.ntmps4
    go_wp2_with fail
    go_at_call 6
    refine (hnum _).mono ?_
    rintro e w' ⟨rfl, rfl⟩
    go_wp2
    go_ret2
    exact ⟨rfl, rfl⟩
  · rw [hW, numV_good hW] at hnum
    rw [hW] at hok
    obtain ⟨ha, h1, h18⟩ := wt_all hW
    have hGl : G.data.toList.length = G.size := by simp
    have hGp : 0 < G.size := by omega
    have hd0 := (dg_iff _).mp (allD_at G 0 hGp ha)
    generalize (G[0].toNat : Int) = g0 at *
    by_cases h15 : (15 : Int) < (G.size : Int)
    · rw [decide_eq_false (show ¬ G.data.toList.length ≤ 15 by omega)] at hok
      simp only [Bool.false_and, Bool.and_false] at hok
      rw [hok]
      simp only [Bool.false_and, Bool.false_eq_true, if_false]
      clear hGl hd0
      go_enter Try.func4, Try.ntmps4
      go_wp2_with fail
      go_at_call 6
      refine (hnum _).mono ?_
      rintro e w' ⟨rfl, rfl⟩
      go_wp2
      go_ret2
      exact ⟨rfl, rfl⟩
    · rw [decide_eq_true (show G.data.toList.length ≤ 15 by omega)] at hok
      simp only [Bool.true_and, Bool.and_true] at hok
      have hx := num_bound _ _ rfl ha
      have hx1 := pow_le _ 15 (show G.data.toList.length ≤ 15 by omega)
      have hx2 : (10 : Int) ^ 15 = 1000000000000000 := by decide
      have x0 : 0 ≤ num G.data.toList := hx.1
      have x1 : num G.data.toList < 1000000000000000 := by omega
      clear hx hx1 hx2 hGl hd0
      generalize num G.data.toList = x at *
      cases hA : digR a
      · rw [hA] at hok
        simp only [Bool.false_and] at hok
        rw [hok]
        simp only [Bool.false_and, Bool.false_eq_true, if_false]
        have hA' : inB (a - 48) 0 9 = false := (in_dig a).trans hA
        go_enter Try.func4, Try.ntmps4
        go_wp2_with fail
        go_at_call 6
        refine (hnum _).mono ?_
        rintro e w' ⟨rfl, rfl⟩
        go_wp2_with fail
        go_at_call 7
        refine (in_any _ _ _ _).mono ?_
        rintro e w' ⟨rfl, rfl⟩
        rw [hA']
        go_wp2
        go_ret2
        exact ⟨rfl, rfl⟩
      · have hA' : inB (a - 48) 0 9 = true := (in_dig a).trans hA
        rw [hA] at hok
        simp only [Bool.true_and] at hok
        cases hB : digR c
        · rw [hB] at hok
          rw [hok]
          simp only [Bool.false_and, Bool.false_eq_true, if_false]
          have hB' : inB (c - 48) 0 9 = false := (in_dig c).trans hB
          go_enter Try.func4, Try.ntmps4
          go_wp2_with fail
          go_at_call 6
          refine (hnum _).mono ?_
          rintro e w' ⟨rfl, rfl⟩
          go_wp2_with fail
          go_at_call 7
          refine (in_any _ _ _ _).mono ?_
          rintro e w' ⟨rfl, rfl⟩
          rw [hA']
          go_wp2_with fail
          go_at_call 7
          refine (in_any _ _ _ _).mono ?_
          rintro e w' ⟨rfl, rfl⟩
          rw [hB']
          go_wp2
          go_ret2
          exact ⟨rfl, rfl⟩
        · have hB' : inB (c - 48) 0 9 = true := (in_dig c).trans hB
          rw [hB] at hok
          rw [hok, hval]
          have a9 : 48 ≤ a ∧ a ≤ 57 := of_decide_eq_true hA
          have c9 : 48 ≤ c ∧ c ≤ 57 := of_decide_eq_true hB
          obtain ⟨a9, a9'⟩ := a9
          obtain ⟨c9, c9'⟩ := c9
          have ev : 100 * x + 10 * (a - 48) + (c - 48) = x * 100 + (a - 48) * 10 + (c - 48) := by omega
          rw [ev]
          clear ev
          simp only [Bool.true_and, Bool.false_and, Bool.not_false, if_true]
          have hzz : ((x * 100 + (a - 48) * 10 + (c - 48) == 0) = true) ∨ ((x * 100 + (a - 48) * 10 + (c - 48) == 0) = false) := by cases (x * 100 + (a - 48) * 10 + (c - 48) == 0) <;> simp
          rcases hzz with hz | hz
          all_goals
            go_enter Try.func4, Try.ntmps4
            go_wp2_with fail
            go_at_call 6
            refine (hnum _).mono ?_
            rintro e w' ⟨rfl, rfl⟩
            go_wp2_with fail
            go_at_call 7
            refine (in_any _ _ _ _).mono ?_
            rintro e w' ⟨rfl, rfl⟩
            rw [hA']
            go_wp2_with fail
            go_at_call 7
            refine (in_any _ _ _ _).mono ?_
            rintro e w' ⟨rfl, rfl⟩
            rw [hB']
            go_wp2_with fail
            go_at_call 8
            refine (specTold_any _ _).mono ?_
            rintro e w' ⟨rfl, rfl⟩
            go_wp2
            go_ret2
            exact ⟨ret_two (congrArg told1 (by show _ = x * 100 + (a - 48) * 10 + (c - 48); omega)) (congrArg told2 (by show _ = x * 100 + (a - 48) * 10 + (c - 48); omega)), rfl⟩

set_option maxHeartbeats 1600000 in
theorem specRead_neg (s G H : ByteArray) (n3 : 4 ≤ s.size) (hs : (s.size : Int) ≤ 65536) (a c v : Int) (ok : Bool)
    (hi3 : ∀ w, (Instr.index 9 (.string s) (.int .i64 ((s.size : Int) - 3))).run Try.prog w = .ok (.int .u8 46) w)
    (hi2 : ∀ w, (Instr.index 9 (.string s) (.int .i64 ((s.size : Int) - 2))).run Try.prog w = .ok (.int .u8 a) w)
    (hi1 : ∀ w, (Instr.index 9 (.string s) (.int .i64 ((s.size : Int) - 1))).run Try.prog w = .ok (.int .u8 c) w)
    (a0 : 0 ≤ a) (a1 : a ≤ 255) (c0 : 0 ≤ c) (c1 : c ≤ 255)
    (hslH : ∀ w, (Instr.slice 9 (.string s) none (some (.int .i64 ((s.size : Int) - 3))) none).run Try.prog w = .ok (.string H) w)
    (hGs : G.size ≤ 65536)
    (hok : ok = (wt 18 G.data.toList && decide (G.data.toList.length ≤ 15) && digR a && digR c))
    (hval : v = 100 * num G.data.toList + 10 * (a - 48) + (c - 48))
    (hH0 : ∀ w, (Instr.index 9 (.string H) (.int .i64 0)).run Try.prog w = .ok (.int .u8 45) w)
    (hslG : ∀ w, (Instr.slice 9 (.string H) (some (.int .i64 1)) none none).run Try.prog w = .ok (.string G) w) (w : World) :
    Calls Try.prog 4 #[.string s] w fun e w' => e = .returned (if (ok && !(true && decide (v = 0))) = true then .tuple #[.int .i64 (told1 (signV v true)), .int .i64 (told2 (signV v true))] else .tuple #[.int .i64 0, .int .i64 4]) ∧ w' = w := by
  have n3' : (4 : Int) ≤ (s.size : Int) := by omega
  by_cases hm : ∃ h : 0 < G.size, (G[0].toNat : Int) = 45
  · obtain ⟨hGp, hm⟩ := hm
    have hnum := fun w => number_minus G (by unfold maxLen; omega) hGp hm w
    have hG0 := fun w => run_index_zero G hGp w
    rw [hm] at hG0
    have hW : wt 18 G.data.toList = false := by
      cases h : wt 18 G.data.toList with
      | false => rfl
      | true =>
        have := (dg_iff _).mp (allD_at G 0 hGp (wt_all h).1)
        omega
    rw [hW] at hok
    simp only [Bool.false_and] at hok
    rw [hok]
    simp only [Bool.false_and, Bool.false_eq_true, if_false]
    clear hok hval hW hm
    go_enter Try.func4, Try.ntmps4
    go_wp2_with fail
    go_at_call 6
    refine (hnum _).mono ?_
    rintro e w' ⟨⟨x, q, rfl⟩, rfl⟩
    by_cases h15 : (15 : Int) < (G.size : Int)
    all_goals cases q
    all_goals
      go_wp2
      go_ret2
      exact ⟨rfl, rfl⟩
  · have hg45 : ∀ h : 0 < G.size, ((G[0].toNat : Int) == 45) = false := fun h => by
      have : (G[0].toNat : Int) ≠ 45 := fun e => hm ⟨h, e⟩
      simpa using this
    have hnum := fun w => number_plain G (by unfold maxLen; omega) hg45 w
    clear hg45 hm
    cases hW : wt 18 G.data.toList
    · rw [hW] at hnum hok
      simp only [Bool.false_and] at hok
      rw [hok]
      simp only [Bool.false_and, Bool.false_eq_true, if_false]
      go_enter Try.func4, Try.ntmps4
      go_wp2_with fail
      go_at_call 6
      refine (hnum _).mono ?_
      rintro e w' ⟨rfl, rfl⟩
      go_wp2
      go_ret2
      exact ⟨rfl, rfl⟩
    · rw [hW, numV_good hW] at hnum
      rw [hW] at hok
      obtain ⟨ha, h1, h18⟩ := wt_all hW
      have hGl : G.data.toList.length = G.size := by simp
      have hGp : 0 < G.size := by omega
      have hG0 := fun w => run_index_zero G hGp w
      have hd0 := (dg_iff _).mp (allD_at G 0 hGp ha)
      generalize (G[0].toNat : Int) = g0 at *
      have hg45 : (g0 == 45) = false := by
        have : g0 ≠ 45 := by omega
        simpa using this
      by_cases h15 : (15 : Int) < (G.size : Int)
      · rw [decide_eq_false (show ¬ G.data.toList.length ≤ 15 by omega)] at hok
        simp only [Bool.false_and, Bool.and_false] at hok
        rw [hok]
        simp only [Bool.false_and, Bool.false_eq_true, if_false]
        clear hGl hd0
        go_enter Try.func4, Try.ntmps4
        go_wp2_with fail
        go_at_call 6
        refine (hnum _).mono ?_
        rintro e w' ⟨rfl, rfl⟩
        go_wp2
        go_ret2
        exact ⟨rfl, rfl⟩
      · rw [decide_eq_true (show G.data.toList.length ≤ 15 by omega)] at hok
        simp only [Bool.true_and, Bool.and_true] at hok
        have hx := num_bound _ _ rfl ha
        have hx1 := pow_le _ 15 (show G.data.toList.length ≤ 15 by omega)
        have hx2 : (10 : Int) ^ 15 = 1000000000000000 := by decide
        have x0 : 0 ≤ num G.data.toList := hx.1
        have x1 : num G.data.toList < 1000000000000000 := by omega
        clear hx hx1 hx2 hGl hd0
        generalize num G.data.toList = x at *
        cases hA : digR a
        · rw [hA] at hok
          simp only [Bool.false_and] at hok
          rw [hok]
          simp only [Bool.false_and, Bool.false_eq_true, if_false]
          have hA' : inB (a - 48) 0 9 = false := (in_dig a).trans hA
          go_enter Try.func4, Try.ntmps4
          go_wp2_with fail
          go_at_call 6
          refine (hnum _).mono ?_
          rintro e w' ⟨rfl, rfl⟩
          go_wp2_with fail
          go_at_call 7
          refine (in_any _ _ _ _).mono ?_
          rintro e w' ⟨rfl, rfl⟩
          rw [hA']
          go_wp2
          go_ret2
          exact ⟨rfl, rfl⟩
        · have hA' : inB (a - 48) 0 9 = true := (in_dig a).trans hA
          rw [hA] at hok
          simp only [Bool.true_and] at hok
          cases hB : digR c
          · rw [hB] at hok
            rw [hok]
            simp only [Bool.false_and, Bool.false_eq_true, if_false]
            have hB' : inB (c - 48) 0 9 = false := (in_dig c).trans hB
            go_enter Try.func4, Try.ntmps4
            go_wp2_with fail
            go_at_call 6
            refine (hnum _).mono ?_
            rintro e w' ⟨rfl, rfl⟩
            go_wp2_with fail
            go_at_call 7
            refine (in_any _ _ _ _).mono ?_
            rintro e w' ⟨rfl, rfl⟩
            rw [hA']
            go_wp2_with fail
            go_at_call 7
            refine (in_any _ _ _ _).mono ?_
            rintro e w' ⟨rfl, rfl⟩
            rw [hB']
            go_wp2
            go_ret2
            exact ⟨rfl, rfl⟩
          · have hB' : inB (c - 48) 0 9 = true := (in_dig c).trans hB
            rw [hB] at hok
            rw [hok, hval]
            have a9 : 48 ≤ a ∧ a ≤ 57 := of_decide_eq_true hA
            have c9 : 48 ≤ c ∧ c ≤ 57 := of_decide_eq_true hB
            obtain ⟨a9, a9'⟩ := a9
            obtain ⟨c9, c9'⟩ := c9
            have ev : 100 * x + 10 * (a - 48) + (c - 48) = x * 100 + (a - 48) * 10 + (c - 48) := by omega
            rw [ev]
            clear ev
            by_cases hz : x * 100 + (a - 48) * 10 + (c - 48) = 0
            · rw [decide_eq_true hz]
              simp only [Bool.true_and, Bool.not_true, Bool.false_eq_true, if_false]
              have hz' : (x * 100 + (a - 48) * 10 + (c - 48) == 0) = true := by rw [hz]; rfl
              clear hz
              go_enter Try.func4, Try.ntmps4
              go_wp2_with fail
              go_at_call 6
              refine (hnum _).mono ?_
              rintro e w' ⟨rfl, rfl⟩
              go_wp2_with fail
              go_at_call 7
              refine (in_any _ _ _ _).mono ?_
              rintro e w' ⟨rfl, rfl⟩
              rw [hA']
              go_wp2_with fail
              go_at_call 7
              refine (in_any _ _ _ _).mono ?_
              rintro e w' ⟨rfl, rfl⟩
              rw [hB']
              go_wp2
              go_ret2
              exact ⟨rfl, rfl⟩
            · rw [decide_eq_false hz]
              simp only [Bool.true_and, Bool.not_false, Bool.and_true, if_true]
              have hz' : (x * 100 + (a - 48) * 10 + (c - 48) == 0) = false := by simpa using hz
              go_enter Try.func4, Try.ntmps4
              go_wp2_with fail
              go_at_call 6
              refine (hnum _).mono ?_
              rintro e w' ⟨rfl, rfl⟩
              go_wp2_with fail
              go_at_call 7
              refine (in_any _ _ _ _).mono ?_
              rintro e w' ⟨rfl, rfl⟩
              rw [hA']
              go_wp2_with fail
              go_at_call 7
              refine (in_any _ _ _ _).mono ?_
              rintro e w' ⟨rfl, rfl⟩
              rw [hB']
              go_wp2_with fail
              go_at_call 8
              refine (specTold_any _ _).mono ?_
              rintro e w' ⟨rfl, rfl⟩
              go_wp2
              go_ret2
              exact ⟨ret_two (congrArg told1 (by show _ = -(x * 100 + (a - 48) * 10 + (c - 48)); omega)) (congrArg told2 (by show _ = -(x * 100 + (a - 48) * 10 + (c - 48)); omega)), rfl⟩

end Go.Proofs.Yteajjaenmbigeaa
