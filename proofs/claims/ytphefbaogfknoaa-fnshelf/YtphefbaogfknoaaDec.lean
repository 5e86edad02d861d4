/-
  Contract of the specification's l00Digits: of a number that is not below 0 it tells the decimal digits.
-/
import Derived.Test.YtphefbaogfknoaaBase
import Derived.Lib.ItoaNum
import Derived.Deep.RegionHeld3
import Derived.Deep.RegionWith
import Derived.WalkLawsBesides
import Derived.Laws.IdiomStrings
namespace Go.Proofs.Ytphefbaogfknoaa
open Go.ChangeShapes Go.WideShapes Go.ChangeAt Go.RowKit
set_option linter.unusedVariables false

theorem one_byte (v : Nat) (hv : v < 256) (w : World) (b : Nat) (h : w.cell? ⟨b, 0, none⟩ = some (.int .u8 (v : Int))) :
    (convert 22 9 (.slice (some ⟨b, 0, none⟩) 1 1)).run Try.prog w = .ok (.string ⟨#[UInt8.ofNat v]⟩) w := by
  have e : (UInt8.ofNat v).toNat = v := by simp; omega
  exact run_convert_bytes_back (P := Try.prog) w 22 9 5 ⟨b, 0, none⟩ 1 [UInt8.ofNat v] Try.underlying22 Try.underlying5 Try.underlying9 (by
    intro j hj
    have hj0 : j = 0 := by simp at hj; exact hj
    subst hj0
    show w.cell? _ = some (.int .u8 ((UInt8.ofNat v).toNat : Int))
    rw [e]; simpa [Addr.add] using h)

def decS (u : Nat) : ByteArray := ⟨(Lib.decDigits u).toArray⟩

theorem decS_size (u : Nat) : (decS u).size ≤ u + 1 := by
  have : (Lib.decDigits u).length ≤ u + 1 := by
    induction u using Nat.strongRecOn with
    | _ u ih =>
      rw [Lib.decDigits]
      split
      · simp
      · have := ih (u / 10) (by omega)
        simp; omega
  show (Lib.decDigits u).toArray.size ≤ u + 1
  simpa using this

theorem decS_step (u : Nat) (h : 10 ≤ u) : decS (u / 10) ++ ⟨#[48 + UInt8.ofNat (u % 10)]⟩ = decS u := by
  have e : Lib.decDigits u = Lib.decDigits (u / 10) ++ [UInt8.ofNat (48 + u % 10)] := by
    rw [Lib.decDigits, dif_neg (by omega)]
  unfold decS
  rw [e]
  apply ByteArray.ext
  simp [UInt8.ofNat_add]


theorem digits_one (u : Nat) (hu : u < 10) (w : World) :
    Calls Try.prog 49 #[.int .i64 (u : Int)] w fun e w' => e = .returned (.string (decS u)) ∧ Below w.heap.size w w' := by
  have h1 : ((u : Int) == -9223372036854775808) = false := by
    rw [beq_eq_false_iff_ne]; omega
  have h2 : (u : Int) < 10 := by omega
  have e48 : (48 : Int) + (u : Int) = ((48 + u : Nat) : Int) := by omega
  have hcv : ∀ W b, W.cell? ⟨b, 0, none⟩ = some (.int .u8 (48 + (u : Int))) → (convert 22 9 (.slice (some ⟨b, 0, none⟩) 1 1)).run Try.prog W = .ok (.string (decS u)) W := fun W b h => by
    rw [e48] at h
    rw [one_byte (48 + u) (by omega) W b h]
    unfold decS
    rw [Lib.decDigits_one hu]
  clear e48
  go_enter Try.func49, Try.ntmps49
  go_wp2
  go_ret
  exact ⟨rfl, below_alloc _ _⟩

set_option maxHeartbeats 2000000 in
theorem digits_more (u : Nat) (hu : 10 ≤ u) (hu' : u < 1000000000000000000) (ih : ∀ w, Calls Try.prog 49 #[.int .i64 ((u / 10 : Nat) : Int)] w fun e w' => e = .returned (.string (decS (u / 10))) ∧ Below w.heap.size w w') (w : World) :
    Calls Try.prog 49 #[.int .i64 (u : Int)] w fun e w' => e = .returned (.string (decS u)) ∧ Below w.heap.size w w' := by
  have h1 : ((u : Int) == -9223372036854775808) = false := by
    rw [beq_eq_false_iff_ne]; omega
  have h2 : (10 : Int) ≤ (u : Int) := by omega
  have e48 : (48 : Int) + (u : Int) % 10 = ((48 + u % 10 : Nat) : Int) := by omega
  have hcv : ∀ W b, W.cell? ⟨b, 0, none⟩ = some (.int .u8 (48 + (u : Int) % 10)) → (convert 22 9 (.slice (some ⟨b, 0, none⟩) 1 1)).run Try.prog W = .ok (.string ⟨#[UInt8.ofNat (48 + u % 10)]⟩) W := fun W b h => by
    rw [e48] at h
    exact one_byte (48 + u % 10) (by omega) W b h
  have e10 : ((u / 10 : Nat) : Int) = (u : Int) / 10 := by omega
  rw [e10] at ih
  clear e48 e10
  have tm : (u : Int).tmod 10 = (u : Int) % 10 := Int.tmod_eq_emod_of_nonneg (by omega)
  have wq : IntKind.i64.wrap ((u : Int) / 10) = (u : Int) / 10 := wrap_id _ (by omega) (by omega)
  have wr : IntKind.i64.wrap ((u : Int) % 10) = (u : Int) % 10 := wrap_id _ (by omega) (by omega)
  have ws : IntKind.i64.wrap (48 + (u : Int) % 10) = 48 + (u : Int) % 10 := wrap_id _ (by omega) (by omega)
  have wb : IntKind.u8.wrap (48 + (u : Int) % 10) = 48 + (u : Int) % 10 := by simp [IntKind.wrap, IntKind.signed, IntKind.bits]; omega
  go_enter Try.func49, Try.ntmps49
  go_wp2
  have hsz : (decS (u / 10)).size ≤ 1000000000000000000 := by have := decS_size (u / 10); omega
  go_region_with (go_at_call 49; refine (ih _).mono ?_; rintro e w1 ⟨rfl, hb1⟩; obtain ⟨hc1, hf1, hz1⟩ := bfacts hb1)
  all_goals
    go_wp2
    go_ret
    rw [decS_step u hu]
    exact ⟨rfl, by repeat (first | exact Below.refl _ _ | refine chain ?_ (by assumption) | refine chain ?_ (below_alloc _ _) | refine chain ?_ (below_drew _))⟩

theorem digits_any : ∀ (u : Nat), u < 1000000000000000000 → ∀ w, Calls Try.prog 49 #[.int .i64 (u : Int)] w fun e w' => e = .returned (.string (decS u)) ∧ Below w.heap.size w w' := by
  intro u
  induction u using Nat.strongRecOn with
  | _ u ih =>
    intro hu w
    by_cases h : u < 10
    · exact digits_one u h w
    · exact digits_more u (by omega) hu (fun w => ih (u / 10) (by omega) (by omega) w) w

end Go.Proofs.Ytphefbaogfknoaa
