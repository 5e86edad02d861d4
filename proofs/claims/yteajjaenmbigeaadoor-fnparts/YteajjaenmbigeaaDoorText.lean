/-
  Contracts of MoneyText (the specification's and the program's): for every amount both answer the same text and code, where the library's table of powers holds what its text lays.
-/
import Derived.Test.YteajjaenmbigeaaDoorItoa
import Derived.Test.YteajjaenmbigeaaDoorAmt
import Derived.Test.YteajjaenmbigeaaDoorShelf
import Derived.Lib.LaidTab
import Derived.WalkSmall
namespace Go.Proofs.YteajjaenmbigeaaDoor
open Go.ChangeShapes Go.WideShapes Go.ChangeAt Go.RowKit Go.Sort
set_option linter.unusedVariables false

/-- An amount's text, the amount not below 0. -/
def textS (u : Nat) : ByteArray := decS (u / 100) ++ ⟨#[46]⟩ ++ decS (u / 10 % 10) ++ decS (u % 10)
def textV (n : Int) : ByteArray := if n < 0 then ⟨#[45]⟩ ++ textS n.natAbs else textS n.toNat
def mt1 (n : Int) : ByteArray := if amtB n = true then textV n else ⟨#[]⟩
def mt2 (n : Int) : Int := if amtB n = true then 0 else 1

theorem dec_small (u : Nat) (h : u < 10) : (decS u).size = 1 := by
  unfold decS; rw [Lib.decDigits_one h]; rfl


theorem textS_size (u : Nat) (hu : u ≤ 1000000000) : (textS u).size ≤ 100000010 := by
  have h1 := decS_size (u / 100)
  have h2 := dec_small (u / 10 % 10) (by omega)
  have h3 := dec_small (u % 10) (by omega)
  unfold textS
  simp only [ByteArray.size_append]
  have h4 : (⟨#[46]⟩ : ByteArray).size = 1 := rfl
  omega


theorem sizeOf_any (n : Int) (hn : -1000000000 ≤ n) (hn' : n ≤ 1000000000) (w : World) :
    Calls Tryd.prog 24 #[.int .i64 n] w fun e w' => e = .returned (.int .i64 (n.natAbs : Int)) ∧ w' = w := by
  by_cases h : n < 0
  · go_enter Tryd.func24, Tryd.ntmps24
    go_wp2
    go_ret
    exact ⟨ret_int (by omega), rfl⟩
  · go_enter Tryd.func24, Tryd.ntmps24
    go_wp2
    go_ret
    exact ⟨ret_int (by omega), rfl⟩

theorem implMT_any (n : Int) (w : World) (hT : Tab w) :
    Calls Tryd.prog 8 #[.int .i64 n] w fun e w' => e = .returned (.tuple #[.string (mt1 n), .int .i64 (mt2 n)]) ∧ Below w.heap.size w w' := by
  cases hA : amtB n
  · have e1 : mt1 n = ⟨#[]⟩ := by unfold mt1; rw [hA]; rfl
    have e2 : mt2 n = 1 := by unfold mt2; rw [hA]; rfl
    rw [e1, e2]
    go_enter Tryd.func8, Tryd.ntmps8
    go_wp2_with fail
    go_at_call 12
    refine (implMoney_any _ _).mono ?_
    rintro e w' ⟨rfl, rfl⟩
    rw [hA]
    go_wp2
    go_ret2
    exact ⟨rfl, Below.refl _ _⟩
  · have e1 : mt1 n = textV n := by unfold mt1; rw [hA]; rfl
    have e2 : mt2 n = 0 := by unfold mt2; rw [hA]; rfl
    rw [e1, e2]
    obtain ⟨a1, a2⟩ := (amtB_iff n).mp hA
    have hso := fun w => sizeOf_any n a1 a2 w
    have htv : textV n = (if n < 0 then ⟨#[45]⟩ else ⟨#[]⟩) ++ decS (n.natAbs / 100) ++ ⟨#[46]⟩ ++ decS (n.natAbs % 100 / 10) ++ decS (n.natAbs % 100 % 10) := by
      have q1 : n.natAbs % 100 / 10 = n.natAbs / 10 % 10 := by omega
      have q2 : n.natAbs % 100 % 10 = n.natAbs % 10 := by omega
      rw [q1, q2]
      unfold textV textS
      by_cases h : n < 0
      · rw [if_pos h, if_pos h]; apply ByteArray.ext; simp
      · rw [if_neg h, if_neg h, show n.toNat = n.natAbs by omega]; apply ByteArray.ext; simp
    rw [htv]
    have hul : n.natAbs ≤ 1000000000 := by omega
    clear htv e1 e2
    generalize n.natAbs = u at *
    have d1 := fun w (h : Tab w) => itoa_any (u / 100) (by omega) w h
    have d2 := fun w (h : Tab w) => itoa_any (u % 100 / 10) (by omega) w h
    have d3 := fun w (h : Tab w) => itoa_any (u % 100 % 10) (by omega) w h
    have e1 : ((u / 100 : Nat) : Int) = (u : Int) / 100 := by omega
    have e2 : ((u % 100 / 10 : Nat) : Int) = (u : Int) % 100 / 10 := by omega
    have e3 : ((u % 100 % 10 : Nat) : Int) = (u : Int) % 10 := by omega
    rw [e1] at d1
    rw [e2] at d2
    rw [e3] at d3
    have s1 : (decS (u / 100)).size ≤ 100000001 := by have := decS_size (u / 100); omega
    have s2 : (decS (u % 100 / 10)).size ≤ 1 := by rw [dec_small _ (by omega)]; omega
    have s3 : (decS (u % 100 % 10)).size ≤ 1 := by rw [dec_small _ (by omega)]; omega
    clear e1 e2 e3
    generalize decS (u / 100) = A at *
    generalize decS (u % 100 / 10) = B at *
    generalize decS (u % 100 % 10) = C at *
    by_cases h : n < 0
    · rw [if_pos h]
      go_enter Tryd.func8, Tryd.ntmps8
      go_wp2_with fail
      go_at_call 12
      refine (implMoney_any _ _).mono ?_
      rintro e w' ⟨rfl, rfl⟩
      rw [hA]
      go_wp2_with fail
      go_at_call 24
      refine (hso _).mono ?_
      rintro e w' ⟨rfl, rfl⟩
      go_wp2_with fail
      go_at_call 25
      refine (d1 _ hT).mono ?_
      rintro e w1 ⟨rfl, hb1⟩
      go_wp2_with fail
      go_at_call 25
      refine (d2 _ (hT.below hb1)).mono ?_
      rintro e w2 ⟨rfl, hb2⟩
      go_wp2_with fail
      go_at_call 25
      refine (d3 _ ((hT.below hb1).below hb2)).mono ?_
      rintro e w3 ⟨rfl, hb3⟩
      go_wp2
      go_ret2
      exact ⟨rfl, chain (chain hb1 hb2) hb3⟩
    · rw [if_neg h]
      go_enter Tryd.func8, Tryd.ntmps8
      go_wp2_with fail
      go_at_call 12
      refine (implMoney_any _ _).mono ?_
      rintro e w' ⟨rfl, rfl⟩
      rw [hA]
      go_wp2_with fail
      go_at_call 24
      refine (hso _).mono ?_
      rintro e w' ⟨rfl, rfl⟩
      go_wp2_with fail
      go_at_call 25
      refine (d1 _ hT).mono ?_
      rintro e w1 ⟨rfl, hb1⟩
      go_wp2_with fail
      go_at_call 25
      refine (d2 _ (hT.below hb1)).mono ?_
      rintro e w2 ⟨rfl, hb2⟩
      go_wp2_with fail
      go_at_call 25
      refine (d3 _ ((hT.below hb1).below hb2)).mono ?_
      rintro e w3 ⟨rfl, hb3⟩
      go_wp2
      go_ret2
      exact ⟨rfl, chain (chain hb1 hb2) hb3⟩
end Go.Proofs.YteajjaenmbigeaaDoor
