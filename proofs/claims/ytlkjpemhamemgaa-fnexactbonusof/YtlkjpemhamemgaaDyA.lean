/-
  Contracts of the program's calendar: rises, right, inWeek, noHoliday, nextOpen.
-/
import Derived.Test.YtlkjpemhamemgaaDyM
import Derived.Test.YtlkjpemhamemgaaBlA
import Derived.Deep.DeepCutAuto
namespace Go.Proofs.Ytlkjpemhamemgaa
open Go.ChangeShapes Go.WideShapes Go.ChangeAt Go.RowKit Go.Joins Go.Deep
set_option linter.unusedVariables false

set_option maxHeartbeats 1000000 in
theorem rises_any (a : Option Addr) (cap : Nat) (L : List Int) (hl : L.length ≤ 100000000) (w : World) (hr : Reads w.heap.size w a L) :
    Calls Try.prog 108 #[.slice a L.length cap] w fun e w' => e = .returned (.bool (rsN L L.length)) ∧ Below w.heap.size w w' := by
  have HR : Hid (Reads w.heap.size w a L) := hr
  clear hr
  go_enter Try.func108, Try.ntmps108
  go_wp2
  go_loopw [3] (fun c wr => ∃ k : Nat, 1 ≤ k ∧ (k ≤ L.length ∨ k = 1) ∧ c = .int .i64 (k : Int) ∧ rsN L k = true ∧ Below w.heap.size w wr) (fun c _ => L.length - (intOf c).toNat)
  case atStart => exact ⟨1, Nat.le_refl _, .inr rfl, rfl, rfl, Below.refl _ _⟩
  case round =>
    obtain ⟨k, hk1, hk2, rfl, hrs, hb⟩ := hrel
    have HB : Hid (Below w.heap.size w wr) := hb
    have HS : Hid (rsN L k = true) := hrs
    have HK2 : Hid (k ≤ L.length ∨ k = 1) := hk2
    clear hb hrs hk2
    by_cases hlt : k < L.length
    · have hlt' : (k : Int) < (L.length : Int) := by omega
      rcases HR.out with h | ⟨b0, o0, ha, hB0, ia⟩
      · rw [h] at hlt; simp at hlt
      have c0 := (ia.below HB.out hB0) k hlt
      have c1 := (ia.below HB.out hB0) (k - 1) (by omega)
      have HF : Hid (¬ L.getD (k - 1) 0 < L.getD k 0 → rsN L L.length = false) := fun h => rsN_fail hk1 hlt h
      have HN : Hid (L.getD (k - 1) 0 < L.getD k 0 → rsN L (k + 1) = true) := fun h => rsN_next HS.out (.inr h)
      rw [ha]
      clear ia
      have hwk : IntKind.i64.wrap ((k : Int) - 1) = ((k - 1 : Nat) : Int) := by rw [show (k : Int) - 1 = ((k - 1 : Nat) : Int) by omega]; exact wrap_id _ (by omega) (by omega)
      have hk3 : ((k - 1 : Nat) : Int) < (L.length : Int) := by omega
      generalize L.getD (k - 1) 0 = p at *
      generalize L.getD k 0 = q at *
      generalize hj : k - 1 = j at *
      have HJ : Hid (k - 1 = j) := hj
      clear hj
      by_cases hpq : p < q
      · have l1 : decide (q ≤ p) = false := decide_eq_false (by omega)
        have l2 : ¬ q ≤ p := by omega
        have HE : Hid (rsN L (k + 1) = true) := HN.out hpq
        clear HF HN
        go_wp2
        go_quiet (fail)
        go_wp2
        exact ⟨⟨k + 1, by omega, .inl (by omega), by go_num, HE.out, below_drewN HB.out _⟩, by simp [intOf]; omega⟩
      · have l1 : decide (q ≤ p) = true := decide_eq_true (by omega)
        have l2 : q ≤ p := by omega
        have HE : Hid (rsN L L.length = false) := HF.out hpq
        clear HF HN
        go_wp2
        go_quiet (fail)
        go_wp2
        go_ret
        exact ⟨ret_bool HE.out.symm, below_drewN HB.out _⟩
    · have hle : ¬ (k : Int) < (L.length : Int) := by omega
      have HE : Hid (rsN L L.length = true) := by
        show rsN L L.length = true
        rcases HK2.out with h | h
        · rw [show L.length = k by omega]; exact HS.out
        · by_cases h0 : L.length = 0
          · rw [h0]; rfl
          · rw [show L.length = k by omega]; exact HS.out
      go_wp2
      go_ret
      exact ⟨ret_bool HE.out.symm, HB.out⟩
/-- A place is told: it is not below 0. -/
def IxP (x : Int) (b : Bool) : Prop := decide (0 ≤ x) = b
end Go.Proofs.Ytlkjpemhamemgaa
