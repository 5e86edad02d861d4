/-
  Texts of this claim laid together: Digits, Check.
-/
import Derived.Test.YtabpkfhbnendjaaGreatM1
import Derived.LoopTactic
import Derived.Laws.RangeAny
import Derived.Laws.RangeString
import Derived.Lib.Strings
import Derived.Deep.Light
import Derived.WalkLawsBesides
/-
  Contracts of what reads digits (the specification's l00Number; the program's digitRune, allDigits, digitsNumber, wholeText), each for every text.
-/
namespace Go.Proofs.YtabpkfhbnendjaaGreat
open Go.ChangeShapes Go.WideShapes Go.ChangeAt Go.RowKit
set_option linter.unusedVariables false

def digR (r : Int) : Bool := decide (48 ≤ r ∧ r ≤ 57)
def dg (c : UInt8) : Bool := digR (c.toNat : Int)
def allD (l : List UInt8) : Bool := l.all dg
def num (l : List UInt8) : Int := l.foldl (fun n c => 10 * n + ((c.toNat : Int) - 48)) 0

theorem num_snoc (l : List UInt8) (c : UInt8) : num (l ++ [c]) = 10 * num l + ((c.toNat : Int) - 48) := by unfold num; simp
theorem allD_snoc (l : List UInt8) (c : UInt8) : allD (l ++ [c]) = (allD l && dg c) := by unfold allD; simp
theorem dg_iff (c : UInt8) : dg c = true ↔ 48 ≤ (c.toNat : Int) ∧ (c.toNat : Int) ≤ 57 := by unfold dg digR; simp

theorem num_bound : ∀ (n : Nat) (l : List UInt8), l.length = n → allD l = true → 0 ≤ num l ∧ num l < 10 ^ n := by
  intro n
  induction n with
  | zero => intro l h _; have : l = [] := List.length_eq_zero_iff.mp h; subst this; decide
  | succ n ih =>
    intro l h ha
    obtain ⟨l', c, rfl⟩ : ∃ l' c, l = l' ++ [c] := ⟨l.dropLast, l.getLast (by intro e; subst e; simp at h), (List.dropLast_concat_getLast _).symm⟩
    rw [allD_snoc] at ha
    simp only [Bool.and_eq_true] at ha
    have hl : l'.length = n := by simpa using h
    have := ih l' hl ha.1
    have hc := (dg_iff c).mp ha.2
    rw [num_snoc]
    have e : (10 : Int) ^ (n + 1) = 10 * 10 ^ n := by rw [Int.pow_succ, Int.mul_comm]
    rw [e]
    omega

theorem take_snoc (s : ByteArray) (k : Nat) (h : k < s.size) : s.data.toList.take (k + 1) = s.data.toList.take k ++ [s[k]] := by
  rw [List.take_succ_eq_append_getElem (by simpa using h)]; rfl
theorem allD_take (l : List UInt8) (k : Nat) (h : allD l = true) : allD (l.take k) = true := by
  unfold allD at *; rw [List.all_eq_true] at *; intro x hx; exact h x (List.mem_of_mem_take hx)
theorem allD_at (s : ByteArray) (k : Nat) (hk : k < s.size) (h : allD s.data.toList = true) : dg s[k] = true := by
  unfold allD at h; rw [List.all_eq_true] at h
  exact h _ (by show s.data[k] ∈ _; simp)
theorem allD_not (s : ByteArray) (k : Nat) (hk : k < s.size) (h : dg s[k] = false) : allD s.data.toList = false := by
  cases e : allD s.data.toList with
  | false => rfl
  | true => rw [allD_at s k hk e] at h; cases h

theorem pow_le (n m : Nat) (h : n ≤ m) : (10 : Int) ^ n ≤ 10 ^ m := by
  have := Nat.pow_le_pow_right (n := 10) (by omega) h
  have h2 : ((10 ^ n : Nat) : Int) ≤ ((10 ^ m : Nat) : Int) := by omega
  simpa using h2

theorem digR_any (r : Int) (w : World) :
    Calls Tryz.prog 70 #[.int .i32 r] w fun e w' => e = .returned (.bool (digR r)) ∧ w' = w := by
  rcases in_ways r 48 57 with h | ⟨h1, h2⟩ | ⟨h1, h2⟩
  all_goals
    go_enter Tryz.func70, Tryz.ntmps70
    go_wp2
    go_ret
    exact ⟨ret_bool (by first | exact (decide_eq_false (by omega)).symm | exact (decide_eq_true (by omega)).symm | exact decide_eq_decide.mpr (by omega)), rfl⟩

theorem allDigits_any (s : ByteArray) (w : World) :
    Calls Tryz.prog 60 #[.string s] w fun e w' => e = .returned (.bool (allD s.data.toList)) ∧ Below w.heap.size w w' := by
  go_enter Tryz.func60, Tryz.ntmps60
  go_wp2
  go_loopw [4] (fun r w' => ∃ pos : Nat, w' = w.iter s pos ∧ pos ≤ s.size ∧ allD (s.data.toList.take pos) = true) (fun _ w' => s.size - w'.iterPos w.heap.size)
  case atStart => exact ⟨0, rfl, Nat.zero_le _, by simp [allD]⟩
  case round =>
    obtain ⟨pos, rfl, hpos, ha⟩ := hrel
    have HA : Hid (allD (s.data.toList.take pos) = true) := ha
    clear ha
    by_cases hp : pos < s.size
    · by_cases hasc : s[pos].toNat < 128
      · have hnx : ∀ ty, (Instr.next (.pointer (some ⟨w.heap.size, 0, none⟩)) true ty).run Tryz.prog (w.iter s pos) = _ := fun ty => run_next_ascii w s pos ty hp hasc
        have HD : Hid (dg s[pos] = digR (s[pos].toNat : Int)) := rfl
        generalize (s[pos].toNat : Int) = r at *
        cases hd : digR r
        · go_wp2_with (go_at_call 70; refine (digR_any _ _).mono ?_; rintro e w' ⟨rfl, rfl⟩)
          go_ret
          exact ⟨ret_bool (allD_not s pos hp (HD.out.trans hd)).symm, below_alloc _ _⟩
        · go_wp2_with (go_at_call 70; refine (digR_any _ _).mono ?_; rintro e w' ⟨rfl, rfl⟩)
          go_roundw
          case rel => exact ⟨pos + 1, rfl, by omega, by rw [take_snoc s pos hp, allD_snoc, HA.out, HD.out.trans hd]; rfl⟩
          case measure => simp; omega
      · have hnx : ∀ ty, (Instr.next (.pointer (some ⟨w.heap.size, 0, none⟩)) true ty).run Tryz.prog (w.iter s pos) = _ := fun ty => run_next_any w s pos ty hp
        have hh := (decode_high s pos hp (by omega)).1
        have hd : digR ((Utf8.decode s pos).1 : Int) = false := by unfold digR; exact decide_eq_false (by omega)
        have HD : Hid (dg s[pos] = false) := by show dg s[pos] = false; unfold dg digR; exact decide_eq_false (by omega)
        clear hh
        generalize ((Utf8.decode s pos).1 : Int) = r at *
        go_wp2_with (go_at_call 70; refine (digR_any _ _).mono ?_; rintro e w' ⟨rfl, rfl⟩)
        go_ret
        exact ⟨ret_bool (allD_not s pos hp HD.out).symm, below_alloc _ _⟩
    · have hnx : ∀ ty, (Instr.next (.pointer (some ⟨w.heap.size, 0, none⟩)) true ty).run Tryz.prog (w.iter s pos) = _ := fun ty => run_next_end w s pos ty hp
      go_wp2
      go_ret
      refine ⟨ret_bool ?_, below_alloc _ _⟩
      have := HA.out
      rw [List.take_of_length_le (by simp; omega)] at this
      exact this.symm

theorem digitsNumber_any (s : ByteArray) (hl : s.size ≤ 18) (hd : allD s.data.toList = true) (w : World) :
    Calls Tryz.prog 73 #[.string s] w fun e w' => e = .returned (.int .i64 (num s.data.toList)) ∧ Below w.heap.size w w' := by
  go_enter Tryz.func73, Tryz.ntmps73
  go_wp2
  go_loopw [3, 5] (fun n r w' => ∃ pos : Nat, w' = w.iter s pos ∧ pos ≤ s.size ∧ n = .int .i64 (num (s.data.toList.take pos))) (fun _ _ w' => s.size - w'.iterPos w.heap.size)
  case atStart => exact ⟨0, rfl, Nat.zero_le _, by simp [num]⟩
  case round =>
    obtain ⟨pos, rfl, hpos, rfl⟩ := hrel
    by_cases hp : pos < s.size
    · have hc := (dg_iff _).mp (allD_at s pos hp hd)
      have hb := num_bound (s.data.toList.take pos).length _ rfl (allD_take _ pos hd)
      have hb2 : num (s.data.toList.take pos) < 100000000000000000 := by
        have h1 := pow_le (s.data.toList.take pos).length 17 (by simp; omega)
        have h2 : (10 : Int) ^ 17 = 100000000000000000 := by decide
        omega
      have HN : Hid (num (s.data.toList.take (pos + 1)) = 10 * num (s.data.toList.take pos) + ((s[pos].toNat : Int) - 48)) := by
        show num (s.data.toList.take (pos + 1)) = _
        rw [take_snoc s pos hp, num_snoc]
      have hb1 := hb.1
      have hnx : ∀ ty, (Instr.next (.pointer (some ⟨w.heap.size, 0, none⟩)) true ty).run Tryz.prog (w.iter s pos) = _ := fun ty => run_next_ascii w s pos ty hp (by omega)
      clear hb
      generalize (s[pos].toNat : Int) = r at *
      generalize num (s.data.toList.take pos) = x at *
      obtain ⟨hc1, hc2⟩ := hc
      go_wp2
      go_roundw
      case rel => exact ⟨pos + 1, rfl, by omega, by rw [HN.out]⟩
      case measure => simp; omega
    · have hnx : ∀ ty, (Instr.next (.pointer (some ⟨w.heap.size, 0, none⟩)) true ty).run Tryz.prog (w.iter s pos) = _ := fun ty => run_next_end w s pos ty hp
      go_wp2
      go_ret
      refine ⟨ret_int ?_, below_alloc _ _⟩
      rw [List.take_of_length_le (by simp; omega)]

theorem run_index_at (s : ByteArray) (k : Nat) (i : Int) (h : k < s.size) (hi : i = (k : Int)) (w : World) : (Instr.index 9 (.string s) (.int .i64 i)).run Tryz.prog w = .ok (.int .u8 (s[k].toNat : Int)) w := by
  subst hi
  simp [go_sem, h]
theorem run_index_zero (s : ByteArray) (h : 0 < s.size) (w : World) : (Instr.index 9 (.string s) (.int .i64 0)).run Tryz.prog w = .ok (.int .u8 (s[0].toNat : Int)) w :=
  run_index_at s 0 0 h rfl w

/-- Digits of at most m, none needless ahead. -/
def wt (m : Nat) (l : List UInt8) : Bool := decide (1 ≤ l.length ∧ l.length ≤ m) && !(decide (1 < l.length) && decide ((l.headD 0).toNat = 48)) && allD l

theorem headD_at (s : ByteArray) (h : 0 < s.size) : s.data.toList.headD 0 = s[0] := by
  have : s.data.toList = s[0] :: s.data.toList.tail := by
    have h1 : 0 < s.data.toList.length := by simpa using h
    have h2 := List.getElem_cons_drop h1
    simp at h2
    exact h2.symm
  rw [this]; rfl


end Go.Proofs.YtabpkfhbnendjaaGreat

/-
  Contracts of what reckons check digits (the specification's l02All, l02Check; the program's missingDigit), for every text of digits.
-/
namespace Go.Proofs.YtabpkfhbnendjaaGreat
open Go.ChangeShapes Go.WideShapes Go.ChangeAt Go.RowKit
set_option linter.unusedVariables false

/-- The sum of the last k digits, 3, 1, 3, 1, .. times. -/
def cs (l : List UInt8) : Nat → Int
  | 0 => 0
  | k + 1 => cs l k + (if k % 2 = 0 then 3 else 1) * (((l.getD (l.length - 1 - k) 0).toNat : Int) - 48)
def cd (l : List UInt8) : Int := (10 - cs l l.length % 10) % 10

theorem getD_byte (s : ByteArray) (k : Nat) (h : k < s.size) : s.data.toList.getD k 0 = s[k] := by
  rw [List.getD_eq_getElem?_getD, List.getElem?_eq_getElem (by simpa using h)]; rfl

theorem cs_bound (l : List UInt8) (h : allD l = true) : ∀ k, k ≤ l.length → 0 ≤ cs l k ∧ cs l k ≤ 27 * (k : Int) := by
  intro k
  induction k with
  | zero => intro _; exact ⟨by simp [cs], by simp [cs]⟩
  | succ k ih =>
    intro hk
    have h1 := ih (by omega)
    have hm : dg (l.getD (l.length - 1 - k) 0) = true := by
      unfold allD at h; rw [List.all_eq_true] at h
      refine h _ ?_
      rw [List.getD_eq_getElem?_getD, List.getElem?_eq_getElem (by omega)]
      exact List.getElem_mem _
    have h2 := (dg_iff _).mp hm
    unfold cs
    split <;> omega

theorem cs_next (s : ByteArray) (k : Nat) (h : k < s.size) : cs s.data.toList (k + 1) = cs s.data.toList k + (if k % 2 = 0 then 3 else 1) * ((s[s.size - 1 - k].toNat : Int) - 48) := by
  have hlen : s.data.toList.length = s.size := by simp
  show cs s.data.toList k + (if k % 2 = 0 then 3 else 1) * (((s.data.toList.getD (s.data.toList.length - 1 - k) 0).toNat : Int) - 48) = _
  rw [hlen, getD_byte s _ (by omega)]

def tms (k : Nat) : Int := if k % 2 = 0 then 3 else 1
theorem tms_ways (k : Nat) : (tms k = 3 ∧ tms (k + 1) = 1 ∧ (k : Int).tmod 2 = 0) ∨ (tms k = 1 ∧ tms (k + 1) = 3 ∧ (k : Int).tmod 2 = 1) := by
  unfold tms
  rcases Nat.mod_two_eq_zero_or_one k with h | h
  · left; rw [if_pos h, if_neg (by omega)]; exact ⟨rfl, rfl, by rw [Int.tmod_eq_emod_of_nonneg (by omega)]; omega⟩
  · right; rw [if_neg (by omega), if_pos (by omega)]; exact ⟨rfl, rfl, by rw [Int.tmod_eq_emod_of_nonneg (by omega)]; omega⟩
theorem cs_step (s : ByteArray) (k : Nat) (h : k < s.size) : cs s.data.toList (k + 1) = cs s.data.toList k + tms k * ((s[s.size - 1 - k].toNat : Int) - 48) := cs_next s k h

theorem cd_of (x : Int) (h : 0 ≤ x) : IntKind.i64.wrap ((10 - x.tmod 10).tmod 10) = (10 - x % 10) % 10 := by
  have h1 : x.tmod 10 = x % 10 := Int.tmod_eq_emod_of_nonneg h
  have h2 : (10 - x % 10).tmod 10 = (10 - x % 10) % 10 := Int.tmod_eq_emod_of_nonneg (by omega)
  rw [h1, h2, IntKind.wrap_i64]; omega

theorem missingDigit_any (s : ByteArray) (hl : s.size ≤ 1000000) (hd : allD s.data.toList = true) (w : World) :
    Calls Tryz.prog 72 #[.string s] w fun e w' => e = .returned (.int .i64 (cd s.data.toList)) ∧ w' = w := by
  have hlen : s.data.toList.length = s.size := by simp
  have HD : Hid (allD s.data.toList = true) := hd
  have HL : Hid (s.data.toList.length = s.size) := hlen
  have hl' : (s.size : Int) ≤ 1000000 := by omega
  clear hd hlen hl
  go_enter Tryz.func72, Tryz.ntmps72
  go_wp2
  go_loop [3, 4, 5] (fun x t i => ∃ k : Nat, k ≤ s.size ∧ x = .int .i64 (cs s.data.toList k) ∧ t = .int .i64 (tms k) ∧ i = .int .i64 ((s.size : Int) - 1 - (k : Int))) (fun _ _ i => (intOf i + 1).toNat)
  case atStart => exact ⟨0, Nat.zero_le _, rfl, rfl, by go_num⟩
  case round =>
    obtain ⟨k, hk, rfl, rfl, rfl⟩ := hrel
    have hb := cs_bound _ HD.out k (by rw [HL.out]; exact hk)
    obtain ⟨hb1, hb2⟩ := hb
    by_cases hlt : k < s.size
    · have hlt' : (0 : Int) ≤ (s.size : Int) - 1 - (k : Int) := by omega
      have hlt2 : (s.size : Int) - 1 - (k : Int) < (s.size : Int) := by omega
      have hidk := fun w => run_index_at s (s.size - 1 - k) ((s.size : Int) - 1 - (k : Int)) (by omega) (by omega) w
      have hc := (dg_iff _).mp (allD_at s (s.size - 1 - k) (by omega) HD.out)
      have HH : Hid (cs s.data.toList (k + 1) = cs s.data.toList k + tms k * ((s[s.size - 1 - k].toNat : Int) - 48)) := cs_step s k hlt
      generalize (s[s.size - 1 - k].toNat : Int) = d at *
      generalize cs s.data.toList k = x at *
      obtain ⟨hc1, hc2⟩ := hc
      rcases tms_ways k with ⟨t1, t2, _⟩ | ⟨t1, t2, _⟩
      all_goals
        have H1 : Hid (tms (k + 1) = _) := t2
        rw [t1] at HH ⊢
        clear t1 t2
        go_wp2
        go_round
        case rel => exact ⟨k + 1, by omega, by rw [HH.out]; first | done | go_num, by rw [H1.out]; first | done | go_num, by go_num⟩
        case measure => simp [intOf]; omega
    · have e : k = s.size := by omega
      have HE : Hid (cs s.data.toList k = cs s.data.toList s.data.toList.length) := by show _ = _; rw [HL.out, e]
      have hneg : (s.size : Int) - 1 - (k : Int) < 0 := by omega
      clear e
      generalize hx : cs s.data.toList k = x at *
      have HX : Hid (cs s.data.toList k = x) := hx
      clear hx
      have hw := cd_of x hb1
      go_wp2
      go_ret
      refine ⟨ret_int ?_, rfl⟩
      unfold cd
      rw [← HE.out]
      omega

theorem l02All_any (s : ByteArray) (hs : s.size ≤ maxLen) (w : World) :
    Calls Tryz.prog 50 #[.string s] w fun e w' => e = .returned (.bool (allD s.data.toList)) ∧ w' = w := by
  unfold maxLen at hs
  go_enter Tryz.func50, Tryz.ntmps50
  go_wp2
  go_loop [3] (fun i => ∃ k : Nat, k ≤ s.size ∧ i = .int .i64 (k : Int) ∧ allD (s.data.toList.take k) = true) (fun i => s.size - (intOf i).toNat)
  case atStart => exact ⟨0, Nat.zero_le _, rfl, rfl⟩
  case round =>
    obtain ⟨k, hk, rfl, ha⟩ := hrel
    have HA : Hid (allD (s.data.toList.take k) = true) := ha
    clear ha
    by_cases hlt : k < s.size
    · have hlt' : (k : Int) < (s.size : Int) := by omega
      have HD : Hid (dg s[k] = digR (s[k].toNat : Int)) := rfl
      have hidk := fun w => run_index_at s k (k : Int) hlt rfl w
      have hc0 : 0 ≤ (s[k].toNat : Int) ∧ (s[k].toNat : Int) ≤ 255 := by have := s[k].toNat_lt; omega
      generalize (s[k].toNat : Int) = d at *
      obtain ⟨hc1, hc2⟩ := hc0
      rcases in_ways d 48 57 with hd | ⟨hd, hd'⟩ | ⟨hd, hd'⟩
      · have HF : Hid (allD s.data.toList = false) := allD_not s k hlt (HD.out.trans (decide_eq_false (by omega)))
        go_wp2
        go_ret
        exact ⟨ret_bool HF.out.symm, rfl⟩
      · have HF : Hid (allD s.data.toList = false) := allD_not s k hlt (HD.out.trans (decide_eq_false (by omega)))
        go_wp2
        go_ret
        exact ⟨ret_bool HF.out.symm, rfl⟩
      · have HT : Hid (dg s[k] = true) := HD.out.trans (decide_eq_true (by omega))
        go_wp2
        go_round
        case rel => exact ⟨k + 1, by omega, by go_num, by rw [take_snoc s k hlt, allD_snoc, HA.out, HT.out]; rfl⟩
        case measure => simp [intOf]; omega
    · have HE : Hid (allD s.data.toList = true) := by
        have h1 := HA.out
        rw [List.take_of_length_le (by simp; omega)] at h1
        exact h1
      go_wp2
      go_ret
      exact ⟨ret_bool HE.out.symm, rfl⟩

theorem l02Check_any (s : ByteArray) (hl : s.size ≤ 1000000) (hd : allD s.data.toList = true) (w : World) :
    Calls Tryz.prog 22 #[.string s] w fun e w' => e = .returned (.int .i64 (cd s.data.toList)) ∧ w' = w := by
  have hlen : s.data.toList.length = s.size := by simp
  have HD : Hid (allD s.data.toList = true) := hd
  have HL : Hid (s.data.toList.length = s.size) := hlen
  have hl' : (s.size : Int) ≤ 1000000 := by omega
  clear hd hlen hl
  go_enter Tryz.func22, Tryz.ntmps22
  go_wp2
  go_loop [3, 4, 5] (fun x i _ => ∃ k : Nat, k ≤ s.size ∧ x = .int .i64 (cs s.data.toList k) ∧ i = .int .i64 (k : Int)) (fun _ i _ => s.size - (intOf i).toNat)
  case atStart => exact ⟨0, Nat.zero_le _, rfl, rfl⟩
  case round =>
    obtain ⟨k, hk, rfl, rfl⟩ := hrel
    have hb := cs_bound _ HD.out k (by rw [HL.out]; exact hk)
    obtain ⟨hb1, hb2⟩ := hb
    by_cases hlt : k < s.size
    · have hlt2 : (k : Int) < (s.size : Int) := by omega
      have hidk := fun w => run_index_at s (s.size - 1 - k) ((s.size : Int) - 1 - (k : Int)) (by omega) (by omega) w
      have hc := (dg_iff _).mp (allD_at s (s.size - 1 - k) (by omega) HD.out)
      have HH : Hid (cs s.data.toList (k + 1) = cs s.data.toList k + tms k * ((s[s.size - 1 - k].toNat : Int) - 48)) := cs_step s k hlt
      generalize (s[s.size - 1 - k].toNat : Int) = d at *
      generalize cs s.data.toList k = x at *
      obtain ⟨hc1, hc2⟩ := hc
      rcases tms_ways k with ⟨t1, t2, t3⟩ | ⟨t1, t2, t3⟩
      all_goals
        rw [t1] at HH
        clear t1 t2
        go_wp2
        go_round
        case rel => exact ⟨k + 1, by omega, by rw [HH.out]; first | done | go_num, by go_num⟩
        case measure => simp [intOf]; omega
    · have e : k = s.size := by omega
      have HE : Hid (cs s.data.toList k = cs s.data.toList s.data.toList.length) := by show _ = _; rw [HL.out, e]
      clear e
      generalize hx : cs s.data.toList k = x at *
      have HX : Hid (cs s.data.toList k = x) := hx
      clear hx
      go_wp2
      go_ret
      refine ⟨ret_int ?_, rfl⟩
      unfold cd
      rw [← HE.out]
      omega
end Go.Proofs.YtabpkfhbnendjaaGreat
