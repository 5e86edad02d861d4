/-
  Contract of the program's CheckDigit, for every text.
-/
import Derived.Test.YtlejmjpjlbiojaaDoorCheck
namespace Go.Proofs.YtlejmjpjlbiojaaDoor
open Go.ChangeShapes Go.WideShapes Go.ChangeAt Go.RowKit
open Go.ChangeMaps (open_string shut_string)
set_option linter.unusedVariables false

def ckOK (l : List UInt8) : Bool := decide (1 ≤ l.length ∧ l.length ≤ 17) && allD l
def ck1 (l : List UInt8) : Int := if ckOK l = true then cd l else 0
def ck2 (l : List UInt8) : Int := if 65536 < l.length then 2 else if ckOK l = true then 0 else 4

theorem ck_ways (s : ByteArray) : ((65536 : Int) < (s.size : Int) ∧ ck1 s.data.toList = 0 ∧ ck2 s.data.toList = 2) ∨
    ((s.size : Int) ≤ 65536 ∧ (s.size : Int) < 1 ∧ ck1 s.data.toList = 0 ∧ ck2 s.data.toList = 4) ∨ ((s.size : Int) ≤ 65536 ∧ (17 : Int) < (s.size : Int) ∧ ck1 s.data.toList = 0 ∧ ck2 s.data.toList = 4) ∨
    ((1 : Int) ≤ (s.size : Int) ∧ (s.size : Int) ≤ 17 ∧ allD s.data.toList = false ∧ ck1 s.data.toList = 0 ∧ ck2 s.data.toList = 4) ∨
    ((1 : Int) ≤ (s.size : Int) ∧ (s.size : Int) ≤ 17 ∧ allD s.data.toList = true ∧ ck1 s.data.toList = cd s.data.toList ∧ ck2 s.data.toList = 0) := by
  have hlen : s.data.toList.length = s.size := by simp
  unfold ck1 ck2 ckOK
  rw [hlen]
  by_cases h : 65536 < s.size
  · left
    rw [decide_eq_false (by omega), Bool.false_and, if_pos h, if_neg (by simp)]
    exact ⟨by omega, rfl, rfl⟩
  · right
    by_cases h1 : 1 ≤ s.size ∧ s.size ≤ 17
    · right; right
      rw [decide_eq_true h1, Bool.true_and, if_neg h]
      cases e : allD s.data.toList
      · left; rw [if_neg (by simp), if_neg (by simp)]; exact ⟨by omega, by omega, rfl, rfl, rfl⟩
      · right; rw [if_pos rfl, if_pos rfl]; exact ⟨by omega, by omega, rfl, rfl, rfl⟩
    · rw [decide_eq_false h1, Bool.false_and, if_neg h, if_neg (by simp), if_neg (by simp)]
      by_cases h2 : s.size < 1
      · left; exact ⟨by omega, by omega, rfl, rfl⟩
      · right; left; exact ⟨by omega, by omega, rfl, rfl⟩

theorem implCheck_any (s : ByteArray) (w : World) :
    Calls Tryd.prog 10 #[.string s] w fun e w' => e = .returned (.tuple #[.int .i64 (ck1 s.data.toList), .int .i64 (ck2 s.data.toList)]) ∧ Below w.heap.size w w' := by
  rcases ck_ways s with ⟨h, e1, e2⟩ | ⟨h, h', e1, e2⟩ | ⟨h, h', e1, e2⟩ | ⟨h, h', hd, e1, e2⟩ | ⟨h, h', hd, e1, e2⟩
  · rw [e1, e2]; clear e1 e2
    go_enter Tryd.func10, Tryd.ntmps10
    go_wp2
    go_ret2
    exact ⟨rfl, Below.refl _ _⟩
  · rw [e1, e2]; clear e1 e2
    go_enter Tryd.func10, Tryd.ntmps10
    go_wp2
    go_ret2
    exact ⟨rfl, Below.refl _ _⟩
  · rw [e1, e2]; clear e1 e2
    go_enter Tryd.func10, Tryd.ntmps10
    go_wp2
    go_ret2
    exact ⟨rfl, Below.refl _ _⟩
  · rw [e1, e2]; clear e1 e2
    have hA := fun w => allDigits_any s w
    rw [hd] at hA; clear hd
    go_enter Tryd.func10, Tryd.ntmps10
    go_wp2_with (go_at_call 16; refine (hA _).mono ?_; rintro e w1 ⟨rfl, hb1⟩)
    go_ret2
    exact ⟨rfl, hb1⟩
  · rw [e1, e2]; clear e1 e2
    have hA := fun w => allDigits_any s w
    have hM := fun w => missingDigit_any s (by omega) hd w
    rw [hd] at hA; clear hd
    generalize cd s.data.toList = x at *
    go_enter Tryd.func10, Tryd.ntmps10
    go_wp2_with (first | (go_at_call 16; refine (hA _).mono ?_; rintro e w1 ⟨rfl, hb1⟩) | (go_at_call 28; refine (hM _).mono ?_; rintro e w2 ⟨rfl, rfl⟩))
    go_ret2
    exact ⟨rfl, hb1⟩

end Go.Proofs.YtlejmjpjlbiojaaDoor
