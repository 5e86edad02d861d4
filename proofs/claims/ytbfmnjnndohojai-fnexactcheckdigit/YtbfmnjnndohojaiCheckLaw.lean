/-
  For every text the law FnExactCheckDigit answers true: the program's CheckDigit answers as the specification's, at every argument, with no condition.
-/
import Derived.Test.YtbfmnjnndohojaiCheck
namespace Go.Proofs.Ytbfmnjnndohojai
open Go.ChangeShapes Go.WideShapes Go.ChangeAt Go.RowKit
open Go.ChangeMaps (open_string shut_string)
set_option linter.unusedVariables false

def ckOK (l : List UInt8) : Bool := decide (1 ≤ l.length ∧ l.length ≤ 17) && allD l
def ck1 (l : List UInt8) : Int := if ckOK l = true then cd l else 0
def ck2 (l : List UInt8) : Int := if 65536 < l.length then 2 else if ckOK l = true then 0 else 4

theorem ck_ways (s : ByteArray) : ((65536 : Int) < (s.size : Int) ∧ ck1 s.data.toList = 0 ∧ ck2 s.data.toList = 2) ∨
    ((s.size : Int) ≤ 65536 ∧ (s.size : Int) < 1 ∧ ck1 s.data.toList = 0 ∧ ck2 s.data.toList = 4) ∨ ((s.size : Int) ≤ 65536 ∧ (17 : Int) < (s.size : Int) ∧ ck1 s.data.toList = 0 ∧ ck2 s.data.toList = 4) ∨
    ((1 : Int) ≤ (s.size : Int) ∧ (s.size : Int) ≤ 17 ∧ allD s.data.toList = false ∧ ck1 s.data.toList = 0 ∧ ck2 s.data.toList = 4) ∨
    ((1 : Int) ≤ (s.size : Int) ∧ (s.size : Int) ≤ 17 ∧ allD s.data.toList = true ∧ ck1 s.data.toList = cd s.data.toList ∧ ck2 s.data.toList = 0) := by
  have hlen : s.data.toList.length = s.size := by simp
  unfold ck1 ck2 ckOK
  rw [hlen]
  by_cases h : 65536 < s.size
  · left
    rw [decide_eq_false (by omega), Bool.false_and, if_pos h, if_neg (by simp)]
    exact ⟨by omega, rfl, rfl⟩
  · right
    by_cases h1 : 1 ≤ s.size ∧ s.size ≤ 17
    · right; right
      rw [decide_eq_true h1, Bool.true_and, if_neg h]
      cases e : allD s.data.toList
      · left; rw [if_neg (by simp), if_neg (by simp)]; exact ⟨by omega, by omega, rfl, rfl, rfl⟩
      · right; rw [if_pos rfl, if_pos rfl]; exact ⟨by omega, by omega, rfl, rfl, rfl⟩
    · rw [decide_eq_false h1, Bool.false_and, if_neg h, if_neg (by simp), if_neg (by simp)]
      by_cases h2 : s.size < 1
      · left; exact ⟨by omega, by omega, rfl, rfl⟩
      · right; left; exact ⟨by omega, by omega, rfl, rfl⟩

theorem implCheck_any (s : ByteArray) (w : World) :
    Calls Try.prog 16 #[.string s] w fun e w' => e = .returned (.tuple #[.int .i64 (ck1 s.data.toList), .int .i64 (ck2 s.data.toList)]) ∧ Below w.heap.size w w' := by
  rcases ck_ways s with ⟨h, e1, e2⟩ | ⟨h, h', e1, e2⟩ | ⟨h, h', e1, e2⟩ | ⟨h, h', hd, e1, e2⟩ | ⟨h, h', hd, e1, e2⟩
  · rw [e1, e2]; clear e1 e2
    go_enter Try.func16, Try.ntmps16
    go_wp2
    go_ret2
    exact ⟨rfl, Below.refl _ _⟩
  · rw [e1, e2]; clear e1 e2
    go_enter Try.func16, Try.ntmps16
    go_wp2
    go_ret2
    exact ⟨rfl, Below.refl _ _⟩
  · rw [e1, e2]; clear e1 e2
    go_enter Try.func16, Try.ntmps16
    go_wp2
    go_ret2
    exact ⟨rfl, Below.refl _ _⟩
  · rw [e1, e2]; clear e1 e2
    have hA := fun w => allDigits_any s w
    rw [hd] at hA; clear hd
    go_enter Try.func16, Try.ntmps16
    go_wp2_with (go_at_call 39; refine (hA _).mono ?_; rintro e w1 ⟨rfl, hb1⟩)
    go_ret2
    exact ⟨rfl, hb1⟩
  · rw [e1, e2]; clear e1 e2
    have hA := fun w => allDigits_any s w
    have hM := fun w => missingDigit_any s (by omega) hd w
    rw [hd] at hA; clear hd
    generalize cd s.data.toList = x at *
    go_enter Try.func16, Try.ntmps16
    go_wp2_with (first | (go_at_call 39; refine (hA _).mono ?_; rintro e w1 ⟨rfl, hb1⟩) | (go_at_call 44; refine (hM _).mono ?_; rintro e w2 ⟨rfl, rfl⟩))
    go_ret2
    exact ⟨rfl, hb1⟩

theorem specCheck_any (s : ByteArray) (hs : s.size ≤ maxLen) (w : World) :
    Calls Try.prog 15 #[.string s] w fun e w' => e = .returned (.tuple #[.int .i64 (ck1 s.data.toList), .int .i64 (ck2 s.data.toList)]) ∧ w' = w := by
  rcases ck_ways s with ⟨h, e1, e2⟩ | ⟨h, h', e1, e2⟩ | ⟨h, h', e1, e2⟩ | ⟨h, h', hd, e1, e2⟩ | ⟨h, h', hd, e1, e2⟩
  · rw [e1, e2]; clear e1 e2
    go_enter Try.func15, Try.ntmps15
    go_wp2
    go_ret2
    exact ⟨rfl, rfl⟩
  · rw [e1, e2]; clear e1 e2
    go_enter Try.func15, Try.ntmps15
    go_wp2
    go_ret2
    exact ⟨rfl, rfl⟩
  · rw [e1, e2]; clear e1 e2
    go_enter Try.func15, Try.ntmps15
    go_wp2
    go_ret2
    exact ⟨rfl, rfl⟩
  · rw [e1, e2]; clear e1 e2
    have hA := fun w => l02All_any s hs w
    rw [hd] at hA; clear hd
    go_enter Try.func15, Try.ntmps15
    go_wp2_with (go_at_call 42; refine (hA _).mono ?_; rintro e w1 ⟨rfl, rfl⟩)
    go_ret2
    exact ⟨rfl, rfl⟩
  · rw [e1, e2]; clear e1 e2
    have hA := fun w => l02All_any s hs w
    have hM := fun w => l02Check_any s (by omega) hd w
    rw [hd] at hA; clear hd
    generalize cd s.data.toList = x at *
    go_enter Try.func15, Try.ntmps15
    go_wp2_with (first | (go_at_call 42; refine (hA _).mono ?_; rintro e w1 ⟨rfl, rfl⟩) | (go_at_call 43; refine (hM _).mono ?_; rintro e w2 ⟨rfl, rfl⟩))
    go_ret2
    exact ⟨rfl, rfl⟩

namespace CheckLaw
theorem walk (s : ByteArray) (hs : s.size ≤ maxLen) (w : World) :
    Calls Try.prog 6 #[.string s] w fun e w' => e = .returned (.bool true) ∧ Below w.heap.size w w' := by
  have hs' := hs
  unfold maxLen at hs
  by_cases h : (1048576 : Int) < (s.size : Int)
  · go_enter Try.func6, Try.ntmps6
    go_wp2
    go_ret
    exact ⟨rfl, Below.refl _ _⟩
  · have h1 := fun w => specCheck_any s hs' w
    have h2 := fun w => implCheck_any s w
    generalize ck1 s.data.toList = x at *
    generalize ck2 s.data.toList = y at *
    go_enter Try.func6, Try.ntmps6
    go_wp2_with (first | (go_at_call 15; refine (h1 _).mono ?_; rintro e w' ⟨rfl, rfl⟩) | (go_at_call 16; refine (h2 _).mono ?_; rintro e w2 ⟨rfl, hb2⟩))
    go_ret
    exact ⟨rfl, hb2⟩

theorem own : ownKnob Try.prog.godebug = none := by kernel_rfl
theorem laidOut : laidOutB Try.prog = true := by kernel_rfl

set_option maxRecDepth 100000 in
theorem lifted (os : Os) (started : os.Started) (H : Type) (enc : TypeId × Value → H) :
    ReturnsInHanded {} Try.checked os 6 .any (Rows.fnExactCheckDigitSpec.pre6 enc Try.prog Try.f6 Rows.fnExactCheckDigitRow.domain false) (Rows.fnExactCheckDigitSpec.post enc Try.prog Try.f6 false true false false) := by
  refine returnsInHanded_of_change (C := Try.checked) own started (by kernel_rfl) Try.func6
    (ChangeSpec.witness6 (enc := enc) (C := Try.checked) false ⟨#[], #[.string ByteArray.empty], []⟩ 8 (by kernel_rfl) (by kernel_rfl) (by kernel_rfl) (by kernel_rfl)) ?_
  intro W base args ds gs before hval0 hW hcnd _
  have hval : ∀ (j : Nat) t v, Try.f6.params[j]? = some t → args[j]? = some v → Value.okWide Try.prog W .any base t v := hval0
  have hW' := hW
  obtain ⟨p, q, hA0, hV, rfl, hfz, hnd⟩ := hW
  have hA : DataW.TrodAll enc Try.prog W 0 (fun _ => true) true Try.f6.params.toList args.toList ds p := hA0
  rw [Try.params6] at hA hval
  obtain ⟨v0, vs0, d0, ds0, p0, q0, hargs, rfl, rfl, h0, r0⟩ := trodAll_cons hA
  obtain ⟨rfl, rfl, rfl⟩ := trodAll_nil r0
  obtain rfl : args = #[v0] := by cases args; simp_all
  obtain ⟨rfl, rfl⟩ := trodVars_none hV
  have k0 := h0
  have lt0 : ∀ x ∈ p0, x.block < W.heap.size := by obtain ⟨m, hm⟩ := k0; exact DataW.trod_lt m _ _ _ hm
  obtain ⟨a0, rfl, rfl, rfl, w0⟩ := open_string Try.underlying9 (hval 0 9 v0 rfl rfl) h0
  clear hA0 hval0
  refine (walk a0 w0 W ).mono fun e W' ⟨he, bel⟩ => ?_
  subst he
  exact ⟨_, rfl, _, _, _, [], _, [], hW', trodAll_mk1 (shut_bool Try.underlying4 _), (trodAll_cons_mk (Below.trod laidOut (by kernel_rfl) (of_decide_eq_true (by kernel_rfl)) k0 bel lt0) trodAll_mk0), rfl, bel.frame _, fun h => by cases h⟩

theorem over : Rows.fnExactCheckDigitRow.holds Try.pinned (OpenSpec.ofChange Rows.fnExactCheckDigitSpec) :=
  OpenClaim.holds_of_wide 6 Try.f6 rfl rfl rfl rfl rfl rfl rfl ⟨rfl, rfl, rfl, rfl, rfl⟩ rfl rfl rfl rfl rfl (by kernel_rfl) Try.func6 (by kernel_rfl)
    (of_decide_eq_true (by kernel_rfl)) (by unfold Func.isWrapper; first | (rw [if_pos (by decide +kernel)]; kernel_rfl) | (rw [if_neg (by decide +kernel)]; exact ⟨rfl, rfl⟩))
    (fun os started H enc _ => lifted os started H enc)
end CheckLaw

theorem fnExactCheckDigit_holds : Rows.FnExactCheckDigitSaid := CheckLaw.over
end Go.Proofs.Ytbfmnjnndohojai
