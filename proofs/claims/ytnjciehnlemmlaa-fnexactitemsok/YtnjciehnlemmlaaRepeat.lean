/-
  strings.Repeat of the text of one nought, none times and five times.
-/
import Derived.Test.YtnjciehnlemmlaaShelf
import Derived.Test.YtnjciehnlemmlaaBase
namespace Go.Proofs.Ytnjciehnlemmlaa
open Go.ChangeShapes Go.WideShapes Go.ChangeAt Go.RowKit
set_option linter.unusedVariables false

theorem pre_other (l : List UInt8) (c d : UInt8) (r : List UInt8) (h : l = d :: r) (hn : (c == d) = false) : Lib.hasPrefix l [c] = false := by subst h; simp [Lib.hasPrefix, List.isPrefixOf, hn]
theorem pre_same (l : List UInt8) (c : UInt8) (r : List UInt8) (h : l = c :: r) : Lib.hasPrefix l [c] = true := by subst h; simp [Lib.hasPrefix, List.isPrefixOf]
set_option maxRecDepth 50000 in
theorem repeat5 (w : World) : Calls Try.prog 36 #[.string ⟨#[48]⟩, .int .i64 5] w fun e w' => e = .returned (.string ⟨#[48, 48, 48, 48, 48]⟩) ∧ w' = w := by
  have hm := fun w => Try.bits_Mul 1 5 (by decide) (by decide) w
  go_enter Try.func36, Try.ntmps36
  go_wp2_with fail
  go_at_call 39
  refine (hm _).mono ?_
  rintro e w1 ⟨rfl, rfl⟩
  clear hm
  go_wp2_with fail
  go_at_call 40
  refine (Try.strings_HasPrefix _ _ _).mono ?_
  rintro e w2 ⟨rfl, rfl⟩
  rw [pre_other _ _ 32 _ rfl (by decide)]
  go_wp2_with fail
  go_at_call 40
  refine (Try.strings_HasPrefix _ _ _).mono ?_
  rintro e w2 ⟨rfl, rfl⟩
  rw [pre_other _ _ 45 _ rfl (by decide)]
  go_wp2_with fail
  go_at_call 40
  refine (Try.strings_HasPrefix _ _ _).mono ?_
  rintro e w2 ⟨rfl, rfl⟩
  rw [pre_same _ _ _ rfl]
  go_wp2
  go_ret
  exact ⟨congrArg Ending.returned (congrArg Value.string (by kernel_rfl)), rfl⟩
theorem repeat0 (w : World) : Calls Try.prog 36 #[.string ⟨#[48]⟩, .int .i64 0] w fun e w' => e = .returned (.string ⟨#[]⟩) ∧ w' = w := Try.strings_Repeat_zero _ w
end Go.Proofs.Ytnjciehnlemmlaa
