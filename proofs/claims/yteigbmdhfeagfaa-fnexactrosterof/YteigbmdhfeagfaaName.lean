/-
  Contracts of what asks whether a text is a name (the specification's l00Letter, l00Word, NameOK; the program's nameLetter, digitRune, NameOK), each for every text.
-/
import Derived.Test.YteigbmdhfeagfaaBase
import Derived.LoopTactic
import Derived.Laws.RangeAny
import Derived.Laws.RangeString
import Derived.Deep.Light
import Derived.WalkLawsBesides
namespace Go.Proofs.Yteigbmdhfeagfaa
open Go.ChangeShapes Go.WideShapes Go.ChangeAt Go.RowKit
set_option linter.unusedVariables false

def letR (r : Int) : Bool := decide (r = 95 ∨ (97 ≤ r ∧ r ≤ 122) ∨ (65 ≤ r ∧ r ≤ 90) ∨ (192 ≤ r ∧ r ≤ 591 ∧ r ≠ 215 ∧ r ≠ 247) ∨ (913 ≤ r ∧ r ≤ 969) ∨ (1040 ≤ r ∧ r ≤ 1103))
def digR (r : Int) : Bool := decide (48 ≤ r ∧ r ≤ 57)

set_option maxHeartbeats 1000000 in
theorem letR_any (r : Int) (w : World) :
    Calls Try.prog 73 #[.int .i32 r] w fun e w' => e = .returned (.bool (letR r)) ∧ w' = w := by
  go_enter Try.func73, Try.ntmps73
  go_wp2
  all_goals
    go_ret
    refine ⟨ret_bool ?_, rfl⟩
    go_light
    try simp only [beq_eq_false_iff_ne, ne_eq, beq_iff_eq] at *
    unfold letR
    rw [Bool.eq_iff_iff]
    simp
    try omega

theorem digR_any (r : Int) (w : World) :
    Calls Try.prog 74 #[.int .i32 r] w fun e w' => e = .returned (.bool (digR r)) ∧ w' = w := by
  rcases in_ways r 48 57 with h | ⟨h1, h2⟩ | ⟨h1, h2⟩
  all_goals
    go_enter Try.func74, Try.ntmps74
    go_wp2
    go_ret
    exact ⟨ret_bool (by first | exact (decide_eq_false (by omega)).symm | exact (decide_eq_true (by omega)).symm | exact decide_eq_decide.mpr (by omega)), rfl⟩

def let1 (c : Int) : Bool := decide (c = 95 ∨ (97 ≤ c ∧ c ≤ 122) ∨ (65 ≤ c ∧ c ≤ 90))
def rune2 (c d : Int) : Int := (c - 192) * 64 + d - 128
def let2 (c d : Int) : Bool := decide ((194 ≤ c ∧ c ≤ 223) ∧ (128 ≤ d ∧ d ≤ 191)) && letR (rune2 c d)

/-- How many bytes the letter has that begins with c (d behind it, if there is one). -/
def letV (c d : Int) (nx : Bool) : Int := if let1 c = true then 1 else if (nx && let2 c d) = true then 2 else 0

theorem letV_one {c d : Int} {nx : Bool} (h : c = 95 ∨ (97 ≤ c ∧ c ≤ 122) ∨ (65 ≤ c ∧ c ≤ 90)) : 1 = letV c d nx := by
  unfold letV let1
  rw [if_pos (decide_eq_true h)]
theorem letV_two {c d : Int} (h : ¬ (c = 95 ∨ (97 ≤ c ∧ c ≤ 122) ∨ (65 ≤ c ∧ c ≤ 90))) (h' : (194 ≤ c ∧ c ≤ 223) ∧ (128 ≤ d ∧ d ≤ 191))
    (k : (192 ≤ (c - 192) * 64 + d - 128 ∧ (c - 192) * 64 + d - 128 ≤ 591 ∧ (c - 192) * 64 + d - 128 ≠ 215 ∧ (c - 192) * 64 + d - 128 ≠ 247) ∨ (913 ≤ (c - 192) * 64 + d - 128 ∧ (c - 192) * 64 + d - 128 ≤ 969) ∨ (1040 ≤ (c - 192) * 64 + d - 128 ∧ (c - 192) * 64 + d - 128 ≤ 1103)) : 2 = letV c d true := by
  unfold letV let1 let2
  rw [if_neg (by simpa using h), decide_eq_true h']
  have : letR (rune2 c d) = true := by unfold letR rune2; simp only [decide_eq_true_eq]; omega
  rw [this]; rfl
theorem letV_none {c d : Int} {nx : Bool} (h : ¬ (c = 95 ∨ (97 ≤ c ∧ c ≤ 122) ∨ (65 ≤ c ∧ c ≤ 90))) (h' : nx = false ∨ ¬ ((194 ≤ c ∧ c ≤ 223) ∧ (128 ≤ d ∧ d ≤ 191)) ∨
    ((194 ≤ c ∧ c ≤ 223) ∧ (128 ≤ d ∧ d ≤ 191)) ∧ ¬ ((192 ≤ (c - 192) * 64 + d - 128 ∧ (c - 192) * 64 + d - 128 ≤ 591 ∧ (c - 192) * 64 + d - 128 ≠ 215 ∧ (c - 192) * 64 + d - 128 ≠ 247) ∨ (913 ≤ (c - 192) * 64 + d - 128 ∧ (c - 192) * 64 + d - 128 ≤ 969) ∨ (1040 ≤ (c - 192) * 64 + d - 128 ∧ (c - 192) * 64 + d - 128 ≤ 1103))) : 0 = letV c d nx := by
  unfold letV let1 let2
  rw [if_neg (by simpa using h)]
  rcases h' with h' | h' | ⟨h', k⟩
  · rw [h']; rfl
  · rw [decide_eq_false h']; simp
  · have : letR (rune2 c d) = false := by unfold letR rune2; simp only [decide_eq_false_iff_not]; omega
    rw [this]; simp

set_option maxHeartbeats 2000000 in
theorem letter_two (s : ByteArray) (i : Nat) (c d : Int) (hi : i + 1 < s.size) (hs : s.size ≤ maxLen) (hc : (s[i].toNat : Int) = c) (hd : (s[i + 1].toNat : Int) = d) (w : World) :
    Calls Try.prog 69 #[.string s, .int .i64 (i : Int)] w fun e w' => e = .returned (.int .i64 (letV c d true)) ∧ w' = w := by
  unfold maxLen at hs
  have c0 : 0 ≤ c ∧ c ≤ 255 := by have := s[i].toNat_lt; omega
  have d0 : 0 ≤ d ∧ d ≤ 255 := by have := s[i + 1].toNat_lt; omega
  obtain ⟨c0, c1⟩ := c0
  obtain ⟨d0, d1⟩ := d0
  have hi' : (i : Int) + 1 < (s.size : Int) := by omega
  have hidx : ∀ w, (Instr.index 9 (.string s) (.int .i64 (i : Int))).run Try.prog w = .ok (.int .u8 c) w := fun w => by
    have : i < s.size := by omega
    rw [← hc]; simp [go_sem, this]
  have hidy : ∀ w, (Instr.index 9 (.string s) (.int .i64 ((i : Int) + 1))).run Try.prog w = .ok (.int .u8 d) w := fun w => by
    have e : (i : Int) + 1 = ((i + 1 : Nat) : Int) := by omega
    rw [← hd, e]; simp [go_sem]; exact dif_pos ⟨by omega, by omega⟩
  clear hc hd
  go_enter Try.func69, Try.ntmps69
  go_wp2
  all_goals
    go_ret
    refine ⟨ret_int ?_, rfl⟩
    go_light
    try simp only [beq_eq_false_iff_ne, ne_eq, beq_iff_eq] at *
    first | exact letV_one (by omega) | exact letV_two (by omega) (by omega) (by omega) | exact letV_none (by omega) (.inr (by omega))

set_option maxHeartbeats 1000000 in
theorem letter_last (s : ByteArray) (i : Nat) (c d : Int) (hi : i < s.size) (hn : ¬ i + 1 < s.size) (hs : s.size ≤ maxLen) (hc : (s[i].toNat : Int) = c) (w : World) :
    Calls Try.prog 69 #[.string s, .int .i64 (i : Int)] w fun e w' => e = .returned (.int .i64 (letV c d false)) ∧ w' = w := by
  unfold maxLen at hs
  have c0 : 0 ≤ c ∧ c ≤ 255 := by have := s[i].toNat_lt; omega
  obtain ⟨c0, c1⟩ := c0
  have hn' : (s.size : Int) ≤ (i : Int) + 1 := by omega
  have hidx : ∀ w, (Instr.index 9 (.string s) (.int .i64 (i : Int))).run Try.prog w = .ok (.int .u8 c) w := fun w => by
    rw [← hc]; simp [go_sem, hi]
  clear hc
  go_enter Try.func69, Try.ntmps69
  go_wp2
  all_goals
    go_ret
    refine ⟨ret_int ?_, rfl⟩
    go_light
    try simp only [beq_eq_false_iff_ne, ne_eq, beq_iff_eq] at *
    first | exact letV_one (by omega) | exact letV_none (by omega) (.inl rfl)

end Go.Proofs.Yteigbmdhfeagfaa
