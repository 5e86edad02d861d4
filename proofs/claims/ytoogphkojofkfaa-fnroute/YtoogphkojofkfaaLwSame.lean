/-
  The laws' own sameInts.
-/
import Derived.Test.YtoogphkojofkfaaLists0
namespace Go.Proofs.Ytoogphkojofkfaa
open Go.ChangeShapes Go.WideShapes Go.ChangeAt Go.RowKit Go.Deep
set_option linter.unusedVariables false

theorem sameInts_any (a b : Option Addr) (ca cb : Nat) (L : List Int) (hl : L.length ≤ 1000) (w : World) (ra : Reads w.heap.size w a L) (rb : Reads w.heap.size w b L) :
    Calls Try.prog 11 #[.slice a L.length ca, .slice b L.length cb] w fun e w' => e = .returned (.bool true) ∧ Below w.heap.size w w' := by
  have HA : Hid (Reads w.heap.size w a L) := ra
  have HB : Hid (Reads w.heap.size w b L) := rb
  clear ra rb
  have hne : ((L.length : Int) != (L.length : Int)) = false := by simp
  go_enter Try.func11, Try.ntmps11
  go_wp2
  go_loopw [5] (fun c wr => ∃ k : Nat, k ≤ L.length ∧ c = .int .i64 (k : Int) ∧ Below w.heap.size w wr) (fun c _ => L.length - (intOf c).toNat)
  case atStart => exact ⟨0, Nat.zero_le _, rfl, Below.refl _ _⟩
  case round =>
    obtain ⟨k, hk, rfl, hb⟩ := hrel
    have HK : Hid (Below w.heap.size w wr) := hb
    clear hb
    by_cases hlt : k < L.length
    · have hlt' : (k : Int) < (L.length : Int) := by omega
      rcases HA.out with h | ⟨b0, o0, ha, hB0, ia⟩
      · rw [h] at hlt; simp at hlt
      rcases HB.out with h | ⟨b1, o1, hb, hB1, ib⟩
      · rw [h] at hlt; simp at hlt
      have c0 := (ia.below HK.out hB0) k hlt
      have c1 := (ib.below HK.out hB1) k hlt
      rw [ha, hb]
      clear ia ib
      have hxx : ∀ x : Int, (x != x) = false := fun x => by simp
      generalize L.getD k 0 = x at *
      have hx := hxx x
      go_wp2
      go_quiet (fail)
      go_wp2
      exact ⟨⟨k + 1, by omega, by go_num, below_drewN HK.out _⟩, by simp [intOf]; omega⟩
    · have hle : (L.length : Int) ≤ (k : Int) := by omega
      go_wp2
      go_ret
      exact ⟨rfl, HK.out⟩
end Go.Proofs.Ytoogphkojofkfaa
