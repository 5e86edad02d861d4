/-
  Contracts of the specification's l00Number, for every text.
-/
import Derived.Test.YteajjaenmbigeaaDigits
namespace Go.Proofs.Yteajjaenmbigeaa
open Go.ChangeShapes Go.WideShapes Go.ChangeAt Go.RowKit
set_option linter.unusedVariables false

theorem ret_ib {a b : Int} {c d : Bool} (h : a = b) (k : c = d) : Ending.returned (.tuple #[.int .i64 a, .bool c]) = .returned (.tuple #[.int .i64 b, .bool d]) := by rw [h, k]

def numV (l : List UInt8) : Int := if wt 18 l = true then num l else 0

theorem numV_bad {l : List UInt8} (h : wt 18 l = false) : numV l = 0 := by unfold numV; rw [h]; rfl
theorem numV_good {l : List UInt8} (h : wt 18 l = true) : numV l = num l := by unfold numV; rw [if_pos h]


set_option maxHeartbeats 1000000 in
theorem number_plain (s : ByteArray) (hs : s.size ≤ maxLen) (h45 : ∀ h : 0 < s.size, ((s[0].toNat : Int) == 45) = false) (w : World) :
    Calls Try.prog 6 #[.string s] w fun e w' => e = .returned (.tuple #[.int .i64 (numV s.data.toList), .bool (wt 18 s.data.toList)]) ∧ w' = w := by
  unfold maxLen at hs
  have hlen : s.data.toList.length = s.size := by simp
  by_cases h0 : s.size = 0
  · have e : wt 18 s.data.toList = false := by unfold wt; rw [decide_eq_false (by rw [hlen]; omega)]; rfl
    rw [numV_bad e, e]
    have h0' : (s.size : Int) ≤ 0 := by omega
    have h0'' : ((s.size : Int) == 0) = true := by rw [h0]; rfl
    go_enter Try.func6, Try.ntmps6
    go_wp2
    go_ret2
    exact ⟨rfl, rfl⟩
  · have hp : 0 < s.size := by omega
    have hp' : (0 : Int) < (s.size : Int) := by omega
    have hpz : ((s.size : Int) == 0) = false := by
      have : (s.size : Int) ≠ 0 := by omega
      simpa using this
    have hidx := fun w => run_index_zero s hp w
    have hhd := headD_at s hp
    have h45' := h45 hp
    by_cases h18 : (18 : Int) < (s.size : Int)
    · have e : wt 18 s.data.toList = false := by unfold wt; rw [decide_eq_false (by rw [hlen]; omega)]; rfl
      rw [numV_bad e, e]
      clear hhd h45
      generalize (s[0].toNat : Int) = c at *
      go_enter Try.func6, Try.ntmps6
      go_wp2
      go_ret2
      exact ⟨rfl, rfl⟩
    · by_cases hz : 1 < s.size ∧ (s[0].toNat : Int) = 48
      · have e : wt 18 s.data.toList = false := by
          unfold wt
          rw [hhd, hlen, decide_eq_true (p := 1 < s.size) hz.1, decide_eq_true (p := s[0].toNat = 48) (by omega)]; simp
        rw [numV_bad e, e]
        obtain ⟨hz1, hz2⟩ := hz
        have hz1' : (1 : Int) < (s.size : Int) := by omega
        clear hhd h45
        generalize (s[0].toNat : Int) = c at *
        subst hz2
        go_enter Try.func6, Try.ntmps6
        go_wp2
        go_ret2
        exact ⟨rfl, rfl⟩
      · have e : wt 18 s.data.toList = allD s.data.toList := by
          unfold wt
          rw [decide_eq_true (by rw [hlen]; omega), hhd, hlen, Bool.true_and]
          have : (decide (1 < s.size) && decide (s[0].toNat = 48)) = false := by
            simp only [Bool.and_eq_false_iff, decide_eq_false_iff_not]; omega
          rw [this]; rfl
        have HE : Hid (wt 18 s.data.toList = allD s.data.toList) := e
        have hz' : ((s[0].toNat : Int) == 48) = false ∨ (s.size : Int) ≤ 1 := by
          by_cases hq : 1 < s.size
          · left; simp; intro h; exact hz ⟨hq, by omega⟩
          · right; omega
        clear hhd h45 e
        generalize (s[0].toNat : Int) = c at *
        rcases hz' with hz' | hz'
        all_goals
          go_enter Try.func6, Try.ntmps6
          go_wp2
        all_goals
          go_loop [5, 6] (fun n i => ∃ k : Nat, k ≤ s.size ∧ i = .int .i64 (k : Int) ∧ n = .int .i64 (num (s.data.toList.take k)) ∧ allD (s.data.toList.take k) = true) (fun _ i => s.size - (intOf i).toNat)
          case atStart => exact ⟨0, Nat.zero_le _, rfl, rfl, rfl⟩
          case round =>
            obtain ⟨k, hk, rfl, rfl, ha⟩ := hrel
            have HA : Hid (allD (s.data.toList.take k) = true) := ha
            by_cases hlt : k < s.size
            · have hb := num_bound (s.data.toList.take k).length _ rfl ha
              have hb2 : num (s.data.toList.take k) < 100000000000000000 := by
                have h1 := pow_le (s.data.toList.take k).length 17 (by simp; omega)
                have h2 : (10 : Int) ^ 17 = 100000000000000000 := by decide
                omega
              have hb1 := hb.1
              have HN : Hid (num (s.data.toList.take (k + 1)) = 10 * num (s.data.toList.take k) + ((s[k].toNat : Int) - 48)) := by
                show num (s.data.toList.take (k + 1)) = _
                rw [take_snoc s k hlt, num_snoc]
              have HD : Hid (dg s[k] = digR (s[k].toNat : Int)) := rfl
              have hidk := fun w => run_index_at s k (k : Int) hlt rfl w
              have hc0 : 0 ≤ (s[k].toNat : Int) ∧ (s[k].toNat : Int) ≤ 255 := by have := s[k].toNat_lt; omega
              clear hb ha
              generalize (s[k].toNat : Int) = d at *
              generalize num (s.data.toList.take k) = x at *
              obtain ⟨hc1, hc2⟩ := hc0
              rcases in_ways d 48 57 with hd | ⟨hd, hd'⟩ | ⟨hd, hd'⟩
              · have HF : Hid (allD s.data.toList = false) := allD_not s k hlt (HD.out.trans (decide_eq_false (by omega)))
                go_wp2
                go_ret2
                exact ⟨ret_ib (numV_bad (HE.out.trans HF.out)).symm (HE.out.trans HF.out).symm, rfl⟩
              · have HF : Hid (allD s.data.toList = false) := allD_not s k hlt (HD.out.trans (decide_eq_false (by omega)))
                go_wp2
                go_ret2
                exact ⟨ret_ib (numV_bad (HE.out.trans HF.out)).symm (HE.out.trans HF.out).symm, rfl⟩
              · have HT : Hid (dg s[k] = true) := HD.out.trans (decide_eq_true (by omega))
                go_wp2
                go_round
                case rel => exact ⟨k + 1, by omega, by go_num, by rw [HN.out]; go_num, by rw [take_snoc s k hlt, allD_snoc, HA.out, HT.out]; rfl⟩
                case measure => simp [intOf]; omega
            · have hke : s.data.toList.take k = s.data.toList := List.take_of_length_le (by simp; omega)
              rw [hke] at ha ⊢
              clear HA
              have HA : Hid (allD s.data.toList = true) := ha
              have hb := num_bound s.data.toList.length _ rfl ha
              have hb2 : num s.data.toList < 1000000000000000000 := by
                have h1 := pow_le s.data.toList.length 18 (by omega)
                have h2 : (10 : Int) ^ 18 = 1000000000000000000 := by decide
                omega
              have hb1 := hb.1
              clear ha hb hke
              go_wp2
              go_ret2
              exact ⟨ret_ib (by rw [numV_good (HE.out.trans HA.out)]) (HE.out.trans HA.out).symm, rfl⟩


def IsPair (e : Ending) : Prop := ∃ (x : Int) (ok : Bool), e = .returned (.tuple #[.int .i64 x, .bool ok])

/-- A text without its first byte. -/
theorem run_slice_rest (s : ByteArray) (h : 0 < s.size) (hs : s.size ≤ 9223372036854775807) (w : World) :
    (Instr.slice 9 (.string s) (some (.int .i64 1)) none none).run Try.prog w = .ok (.string (s.extract 1 s.size)) w := by
  simp [go_sem]
  omega


set_option maxHeartbeats 1000000 in
theorem number_minus (s : ByteArray) (hs : s.size ≤ maxLen) (hp : 0 < s.size) (h45 : (s[0].toNat : Int) = 45) (w : World) :
    Calls Try.prog 6 #[.string s] w fun e w' => IsPair e ∧ w' = w := by
  unfold maxLen at hs
  have hidx := fun w => run_index_zero s hp w
  rw [h45] at hidx
  have hsl := fun w => run_slice_rest s hp (by omega) w
  have hts : (s.extract 1 s.size).size + 1 = s.size := by simp; omega
  generalize s.extract 1 s.size = t at *
  have hp' : (0 : Int) < (s.size : Int) := by omega
  have ht63 : (t.size : Int) ≤ 9223372036854775806 := by omega
  clear h45 hts
  by_cases h0 : t.size = 0
  · have h0'' : ((t.size : Int) == 0) = true := by rw [h0]; rfl
    go_enter Try.func6, Try.ntmps6
    go_wp2
    go_ret2
    exact ⟨⟨_, _, rfl⟩, rfl⟩
  · have hpz : ((t.size : Int) == 0) = false := by
      have : (t.size : Int) ≠ 0 := by omega
      simpa using this
    have hidt := fun w => run_index_zero t (by omega) w
    generalize (t[0].toNat : Int) = c at *
    go_enter Try.func6, Try.ntmps6
    go_wp2
    all_goals try (go_ret2; exact ⟨⟨_, _, rfl⟩, rfl⟩)
    all_goals
      go_loop [5, 6] (fun n i => ∃ (k : Nat) (x : Int), k ≤ t.size ∧ i = .int .i64 (k : Int) ∧ n = .int .i64 x) (fun _ i => t.size - (intOf i).toNat)
      case atStart => exact ⟨0, 0, Nat.zero_le _, rfl, rfl⟩
      case round =>
        obtain ⟨k, x, hk, rfl, rfl⟩ := hrel
        by_cases hlt : k < t.size
        · have hidk := fun w => run_index_at t k (k : Int) hlt rfl w
          have hc0 : 0 ≤ (t[k].toNat : Int) ∧ (t[k].toNat : Int) ≤ 255 := by have := t[k].toNat_lt; omega
          generalize (t[k].toNat : Int) = d at *
          obtain ⟨hc1, hc2⟩ := hc0
          rcases in_ways d 48 57 with hd | ⟨hd, hd'⟩ | ⟨hd, hd'⟩
          · go_wp2
            go_ret2
            exact ⟨⟨_, _, rfl⟩, rfl⟩
          · go_wp2
            go_ret2
            exact ⟨⟨_, _, rfl⟩, rfl⟩
          · go_wp2
            go_round
            case rel => exact ⟨k + 1, _, by omega, by go_num, rfl⟩
            case measure => simp [intOf]; omega
        · go_wp2
          go_ret2
          exact ⟨⟨_, _, rfl⟩, rfl⟩

end Go.Proofs.Yteajjaenmbigeaa
