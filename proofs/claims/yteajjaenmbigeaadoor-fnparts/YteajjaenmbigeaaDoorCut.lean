/-
  Contracts of strings.CutPrefix at "-" and strings.Cut at ".", for every text.
-/
import Derived.Test.YteajjaenmbigeaaDoorNumber
import Derived.Test.YteajjaenmbigeaaDoorShelf
import Derived.Lib.IndexLaws
import Derived.Lib.IndexBytes
import Derived.BigQuiet
import Derived.Deep.QuietTactic
import Derived.OwnWalk
namespace Go.Proofs.YteajjaenmbigeaaDoor
open Go.ChangeShapes Go.WideShapes Go.ChangeAt Go.RowKit
set_option linter.unusedVariables false

theorem cutIn_none (s : ByteArray) (h : Lib.indexByte s.data.toList 46 = -1) (w : World) :
    Calls Tryd.prog 42 #[.string s, .string ⟨#[46]⟩] w fun e w' => e = .returned (.tuple #[.string s, .string ⟨#[]⟩, .bool false]) ∧ Below w.heap.size w w' := by
  have hix := fun w => Tryd.stringslite_Index_one s 46 w
  rw [h] at hix
  go_enter Tryd.func42, Tryd.ntmps42
  go_wp2_with (go_at_call 46; refine (hix _).mono ?_; rintro e w' ⟨rfl, rfl⟩)
  go_ret3
  exact ⟨rfl, Below.refl _ _⟩

theorem cutPoint_none (s : ByteArray) (h : Lib.indexByte s.data.toList 46 = -1) (w : World) :
    Calls Tryd.prog 27 #[.string s, .string ⟨#[46]⟩] w fun e w' => e = .returned (.tuple #[.string s, .string ⟨#[]⟩, .bool false]) ∧ Below w.heap.size w w' := by
  have hix := fun w => cutIn_none s h w
  go_enter Tryd.func27, Tryd.ntmps27
  go_wp2_with (go_at_call 42; refine (hix _).mono ?_; rintro e w1 ⟨rfl, hb⟩)
  go_ret3
  exact ⟨rfl, hb⟩

theorem cutIn_some (s : ByteArray) (i : Nat) (hs : s.size ≤ maxLen) (h : Lib.indexByte s.data.toList 46 = (i : Int)) (hi : i < s.size) (w : World) :
    Calls Tryd.prog 42 #[.string s, .string ⟨#[46]⟩] w fun e w' => e = .returned (.tuple #[.string (s.extract 0 i), .string (s.extract (i + 1) s.size), .bool true]) ∧ Below w.heap.size w w' := by
  unfold maxLen at hs
  have hix := fun w => Tryd.stringslite_Index_one s 46 w
  rw [h] at hix
  have hi' : (i : Int) < (s.size : Int) := by omega
  go_enter Tryd.func42, Tryd.ntmps42
  go_wp2_with (go_at_call 46; refine (hix _).mono ?_; rintro e w' ⟨rfl, rfl⟩)
  go_quiet (fail)
  go_wp2
  go_ret3
  exact ⟨rfl, below_drewN (Below.refl _ _) _⟩

theorem cutPoint_some (s : ByteArray) (i : Nat) (hs : s.size ≤ maxLen) (h : Lib.indexByte s.data.toList 46 = (i : Int)) (hi : i < s.size) (w : World) :
    Calls Tryd.prog 27 #[.string s, .string ⟨#[46]⟩] w fun e w' => e = .returned (.tuple #[.string (s.extract 0 i), .string (s.extract (i + 1) s.size), .bool true]) ∧ Below w.heap.size w w' := by
  have hix := fun w => cutIn_some s i hs h hi w
  go_enter Tryd.func27, Tryd.ntmps27
  go_wp2_with (go_at_call 42; refine (hix _).mono ?_; rintro e w1 ⟨rfl, hb⟩)
  go_ret3
  exact ⟨rfl, hb⟩

theorem first_list (s : ByteArray) (hp : 0 < s.size) : (s.extract 0 1).toList = [s[0]] := by
  rw [Lib.extract_toList]
  have h1 : 0 < s.data.toList.length := by simpa using hp
  have h2 := List.getElem_cons_drop h1
  simp at h2
  simp
  rw [← h2]
  rfl

theorem cutDash_yes (s : ByteArray) (hs : s.size ≤ maxLen) (hp : 0 < s.size) (h : s[0].toNat = 45) (w : World) :
    Calls Tryd.prog 26 #[.string s, .string ⟨#[45]⟩] w fun e w' => e = .returned (.tuple #[.string (s.extract 1 s.size), .bool true]) ∧ w' = w := by
  unfold maxLen at hs
  have hi' : (1 : Int) ≤ (s.size : Int) := by omega
  have hpre : ((s.extract 0 1).toList == [45]) = true := by
    rw [first_list s hp]
    have : s[0] = 45 := UInt8.toNat_inj.mp (by simpa using h)
    rw [this]; rfl
  go_enter Tryd.func26, Tryd.ntmps26
  go_wp2
  go_ret2
  exact ⟨rfl, rfl⟩

theorem cutDash_no (s : ByteArray) (hs : s.size ≤ maxLen) (h : ∀ hp : 0 < s.size, s[0].toNat ≠ 45) (w : World) :
    Calls Tryd.prog 26 #[.string s, .string ⟨#[45]⟩] w fun e w' => e = .returned (.tuple #[.string s, .bool false]) ∧ w' = w := by
  unfold maxLen at hs
  by_cases hp : 0 < s.size
  · have hi' : (1 : Int) ≤ (s.size : Int) := by omega
    have hpre : ((s.extract 0 1).toList == [45]) = false := by
      rw [first_list s hp]
      have h1 := h hp
      have : s[0] ≠ 45 := fun e => h1 (by rw [e]; rfl)
      simpa using this
    go_enter Tryd.func26, Tryd.ntmps26
    go_wp2
    go_ret2
    exact ⟨rfl, rfl⟩
  · have hi' : (s.size : Int) < 1 := by omega
    go_enter Tryd.func26, Tryd.ntmps26
    go_wp2
    go_ret2
    exact ⟨rfl, rfl⟩
end Go.Proofs.YteajjaenmbigeaaDoor
