/-
  Contracts of what reckons check digits (the specification's l02All, l02Check; the program's missingDigit), for every text of digits.
-/
import Derived.Test.YtnjciehnlemmlaaDigits
namespace Go.Proofs.Ytnjciehnlemmlaa
open Go.ChangeShapes Go.WideShapes Go.ChangeAt Go.RowKit
set_option linter.unusedVariables false

/-- The sum of the last k digits, 3, 1, 3, 1, .. times. -/
def cs (l : List UInt8) : Nat → Int
  | 0 => 0
  | k + 1 => cs l k + (if k % 2 = 0 then 3 else 1) * (((l.getD (l.length - 1 - k) 0).toNat : Int) - 48)
def cd (l : List UInt8) : Int := (10 - cs l l.length % 10) % 10

theorem getD_byte (s : ByteArray) (k : Nat) (h : k < s.size) : s.data.toList.getD k 0 = s[k] := by
  rw [List.getD_eq_getElem?_getD, List.getElem?_eq_getElem (by simpa using h)]; rfl

theorem cs_bound (l : List UInt8) (h : allD l = true) : ∀ k, k ≤ l.length → 0 ≤ cs l k ∧ cs l k ≤ 27 * (k : Int) := by
  intro k
  induction k with
  | zero => intro _; exact ⟨by simp [cs], by simp [cs]⟩
  | succ k ih =>
    intro hk
    have h1 := ih (by omega)
    have hm : dg (l.getD (l.length - 1 - k) 0) = true := by
      unfold allD at h; rw [List.all_eq_true] at h
      refine h _ ?_
      rw [List.getD_eq_getElem?_getD, List.getElem?_eq_getElem (by omega)]
      exact List.getElem_mem _
    have h2 := (dg_iff _).mp hm
    unfold cs
    split <;> omega

theorem cs_next (s : ByteArray) (k : Nat) (h : k < s.size) : cs s.data.toList (k + 1) = cs s.data.toList k + (if k % 2 = 0 then 3 else 1) * ((s[s.size - 1 - k].toNat : Int) - 48) := by
  have hlen : s.data.toList.length = s.size := by simp
  show cs s.data.toList k + (if k % 2 = 0 then 3 else 1) * (((s.data.toList.getD (s.data.toList.length - 1 - k) 0).toNat : Int) - 48) = _
  rw [hlen, getD_byte s _ (by omega)]

def tms (k : Nat) : Int := if k % 2 = 0 then 3 else 1
theorem tms_ways (k : Nat) : (tms k = 3 ∧ tms (k + 1) = 1 ∧ (k : Int).tmod 2 = 0) ∨ (tms k = 1 ∧ tms (k + 1) = 3 ∧ (k : Int).tmod 2 = 1) := by
  unfold tms
  rcases Nat.mod_two_eq_zero_or_one k with h | h
  · left; rw [if_pos h, if_neg (by omega)]; exact ⟨rfl, rfl, by rw [Int.tmod_eq_emod_of_nonneg (by omega)]; omega⟩
  · right; rw [if_neg (by omega), if_pos (by omega)]; exact ⟨rfl, rfl, by rw [Int.tmod_eq_emod_of_nonneg (by omega)]; omega⟩
theorem cs_step (s : ByteArray) (k : Nat) (h : k < s.size) : cs s.data.toList (k + 1) = cs s.data.toList k + tms k * ((s[s.size - 1 - k].toNat : Int) - 48) := cs_next s k h

theorem cd_of (x : Int) (h : 0 ≤ x) : IntKind.i64.wrap ((10 - x.tmod 10).tmod 10) = (10 - x % 10) % 10 := by
  have h1 : x.tmod 10 = x % 10 := Int.tmod_eq_emod_of_nonneg h
  have h2 : (10 - x % 10).tmod 10 = (10 - x % 10) % 10 := Int.tmod_eq_emod_of_nonneg (by omega)
  rw [h1, h2, IntKind.wrap_i64]; omega

theorem missingDigit_any (s : ByteArray) (hl : s.size ≤ 1000000) (hd : allD s.data.toList = true) (w : World) :
    Calls Try.prog 37 #[.string s] w fun e w' => e = .returned (.int .i64 (cd s.data.toList)) ∧ w' = w := by
  have hlen : s.data.toList.length = s.size := by simp
  have HD : Hid (allD s.data.toList = true) := hd
  have HL : Hid (s.data.toList.length = s.size) := hlen
  have hl' : (s.size : Int) ≤ 1000000 := by omega
  clear hd hlen hl
  go_enter Try.func37, Try.ntmps37
  go_wp2
  go_loop [3, 4, 5] (fun x t i => ∃ k : Nat, k ≤ s.size ∧ x = .int .i64 (cs s.data.toList k) ∧ t = .int .i64 (tms k) ∧ i = .int .i64 ((s.size : Int) - 1 - (k : Int))) (fun _ _ i => (intOf i + 1).toNat)
  case atStart => exact ⟨0, Nat.zero_le _, rfl, rfl, by go_num⟩
  case round =>
    obtain ⟨k, hk, rfl, rfl, rfl⟩ := hrel
    have hb := cs_bound _ HD.out k (by rw [HL.out]; exact hk)
    obtain ⟨hb1, hb2⟩ := hb
    by_cases hlt : k < s.size
    · have hlt' : (0 : Int) ≤ (s.size : Int) - 1 - (k : Int) := by omega
      have hlt2 : (s.size : Int) - 1 - (k : Int) < (s.size : Int) := by omega
      have hidk := fun w => run_index_at s (s.size - 1 - k) ((s.size : Int) - 1 - (k : Int)) (by omega) (by omega) w
      have hc := (dg_iff _).mp (allD_at s (s.size - 1 - k) (by omega) HD.out)
      have HH : Hid (cs s.data.toList (k + 1) = cs s.data.toList k + tms k * ((s[s.size - 1 - k].toNat : Int) - 48)) := cs_step s k hlt
      generalize (s[s.size - 1 - k].toNat : Int) = d at *
      generalize cs s.data.toList k = x at *
      obtain ⟨hc1, hc2⟩ := hc
      rcases tms_ways k with ⟨t1, t2, _⟩ | ⟨t1, t2, _⟩
      all_goals
        have H1 : Hid (tms (k + 1) = _) := t2
        rw [t1] at HH ⊢
        clear t1 t2
        go_wp2
        go_round
        case rel => exact ⟨k + 1, by omega, by rw [HH.out]; first | done | go_num, by rw [H1.out]; first | done | go_num, by go_num⟩
        case measure => simp [intOf]; omega
    · have e : k = s.size := by omega
      have HE : Hid (cs s.data.toList k = cs s.data.toList s.data.toList.length) := by show _ = _; rw [HL.out, e]
      have hneg : (s.size : Int) - 1 - (k : Int) < 0 := by omega
      clear e
      generalize hx : cs s.data.toList k = x at *
      have HX : Hid (cs s.data.toList k = x) := hx
      clear hx
      have hw := cd_of x hb1
      go_wp2
      go_ret
      refine ⟨ret_int ?_, rfl⟩
      unfold cd
      rw [← HE.out]
      omega

theorem l02All_any (s : ByteArray) (hs : s.size ≤ maxLen) (w : World) :
    Calls Try.prog 16 #[.string s] w fun e w' => e = .returned (.bool (allD s.data.toList)) ∧ w' = w := by
  unfold maxLen at hs
  go_enter Try.func16, Try.ntmps16
  go_wp2
  go_loop [3] (fun i => ∃ k : Nat, k ≤ s.size ∧ i = .int .i64 (k : Int) ∧ allD (s.data.toList.take k) = true) (fun i => s.size - (intOf i).toNat)
  case atStart => exact ⟨0, Nat.zero_le _, rfl, rfl⟩
  case round =>
    obtain ⟨k, hk, rfl, ha⟩ := hrel
    have HA : Hid (allD (s.data.toList.take k) = true) := ha
    clear ha
    by_cases hlt : k < s.size
    · have hlt' : (k : Int) < (s.size : Int) := by omega
      have HD : Hid (dg s[k] = digR (s[k].toNat : Int)) := rfl
      have hidk := fun w => run_index_at s k (k : Int) hlt rfl w
      have hc0 : 0 ≤ (s[k].toNat : Int) ∧ (s[k].toNat : Int) ≤ 255 := by have := s[k].toNat_lt; omega
      generalize (s[k].toNat : Int) = d at *
      obtain ⟨hc1, hc2⟩ := hc0
      rcases in_ways d 48 57 with hd | ⟨hd, hd'⟩ | ⟨hd, hd'⟩
      · have HF : Hid (allD s.data.toList = false) := allD_not s k hlt (HD.out.trans (decide_eq_false (by omega)))
        go_wp2
        go_ret
        exact ⟨ret_bool HF.out.symm, rfl⟩
      · have HF : Hid (allD s.data.toList = false) := allD_not s k hlt (HD.out.trans (decide_eq_false (by omega)))
        go_wp2
        go_ret
        exact ⟨ret_bool HF.out.symm, rfl⟩
      · have HT : Hid (dg s[k] = true) := HD.out.trans (decide_eq_true (by omega))
        go_wp2
        go_round
        case rel => exact ⟨k + 1, by omega, by go_num, by rw [take_snoc s k hlt, allD_snoc, HA.out, HT.out]; rfl⟩
        case measure => simp [intOf]; omega
    · have HE : Hid (allD s.data.toList = true) := by
        have h1 := HA.out
        rw [List.take_of_length_le (by simp; omega)] at h1
        exact h1
      go_wp2
      go_ret
      exact ⟨ret_bool HE.out.symm, rfl⟩

theorem l02Check_any (s : ByteArray) (hl : s.size ≤ 1000000) (hd : allD s.data.toList = true) (w : World) :
    Calls Try.prog 24 #[.string s] w fun e w' => e = .returned (.int .i64 (cd s.data.toList)) ∧ w' = w := by
  have hlen : s.data.toList.length = s.size := by simp
  have HD : Hid (allD s.data.toList = true) := hd
  have HL : Hid (s.data.toList.length = s.size) := hlen
  have hl' : (s.size : Int) ≤ 1000000 := by omega
  clear hd hlen hl
  go_enter Try.func24, Try.ntmps24
  go_wp2
  go_loop [3, 4, 5] (fun x i _ => ∃ k : Nat, k ≤ s.size ∧ x = .int .i64 (cs s.data.toList k) ∧ i = .int .i64 (k : Int)) (fun _ i _ => s.size - (intOf i).toNat)
  case atStart => exact ⟨0, Nat.zero_le _, rfl, rfl⟩
  case round =>
    obtain ⟨k, hk, rfl, rfl⟩ := hrel
    have hb := cs_bound _ HD.out k (by rw [HL.out]; exact hk)
    obtain ⟨hb1, hb2⟩ := hb
    by_cases hlt : k < s.size
    · have hlt2 : (k : Int) < (s.size : Int) := by omega
      have hidk := fun w => run_index_at s (s.size - 1 - k) ((s.size : Int) - 1 - (k : Int)) (by omega) (by omega) w
      have hc := (dg_iff _).mp (allD_at s (s.size - 1 - k) (by omega) HD.out)
      have HH : Hid (cs s.data.toList (k + 1) = cs s.data.toList k + tms k * ((s[s.size - 1 - k].toNat : Int) - 48)) := cs_step s k hlt
      generalize (s[s.size - 1 - k].toNat : Int) = d at *
      generalize cs s.data.toList k = x at *
      obtain ⟨hc1, hc2⟩ := hc
      rcases tms_ways k with ⟨t1, t2, t3⟩ | ⟨t1, t2, t3⟩
      all_goals
        rw [t1] at HH
        clear t1 t2
        go_wp2
        go_round
        case rel => exact ⟨k + 1, by omega, by rw [HH.out]; first | done | go_num, by go_num⟩
        case measure => simp [intOf]; omega
    · have e : k = s.size := by omega
      have HE : Hid (cs s.data.toList k = cs s.data.toList s.data.toList.length) := by show _ = _; rw [HL.out, e]
      clear e
      generalize hx : cs s.data.toList k = x at *
      have HX : Hid (cs s.data.toList k = x) := hx
      clear hx
      go_wp2
      go_ret
      refine ⟨ret_int ?_, rfl⟩
      unfold cd
      rw [← HE.out]
      omega
end Go.Proofs.Ytnjciehnlemmlaa
