/-
  Contract of the specification's l00Digits: of a number that is not below 0 it tells the decimal digits.
-/
import Derived.Test.YteajjaenmbigeaaDoorBase
import Derived.Lib.ItoaNum
import Derived.Deep.RegionHeld3
import Derived.Deep.RegionWith
import Derived.WalkLawsBesides
import Derived.Laws.IdiomStrings
namespace Go.Proofs.YteajjaenmbigeaaDoor
open Go.ChangeShapes Go.WideShapes Go.ChangeAt Go.RowKit
set_option linter.unusedVariables false

theorem one_byte (v : Nat) (hv : v < 256) (w : World) (b : Nat) (h : w.cell? ⟨b, 0, none⟩ = some (.int .u8 (v : Int))) :
    (convert 22 9 (.slice (some ⟨b, 0, none⟩) 1 1)).run Tryd.prog w = .ok (.string ⟨#[UInt8.ofNat v]⟩) w := by
  have e : (UInt8.ofNat v).toNat = v := by simp; omega
  exact run_convert_bytes_back (P := Tryd.prog) w 22 9 5 ⟨b, 0, none⟩ 1 [UInt8.ofNat v] Tryd.underlying22 Tryd.underlying5 Tryd.underlying9 (by
    intro j hj
    have hj0 : j = 0 := by simp at hj; exact hj
    subst hj0
    show w.cell? _ = some (.int .u8 ((UInt8.ofNat v).toNat : Int))
    rw [e]; simpa [Addr.add] using h)

def decS (u : Nat) : ByteArray := ⟨(Lib.decDigits u).toArray⟩

theorem decS_size (u : Nat) : (decS u).size ≤ u + 1 := by
  have : (Lib.decDigits u).length ≤ u + 1 := by
    induction u using Nat.strongRecOn with
    | _ u ih =>
      rw [Lib.decDigits]
      split
      · simp
      · have := ih (u / 10) (by omega)
        simp; omega
  show (Lib.decDigits u).toArray.size ≤ u + 1
  simpa using this

theorem decS_step (u : Nat) (h : 10 ≤ u) : decS (u / 10) ++ ⟨#[48 + UInt8.ofNat (u % 10)]⟩ = decS u := by
  have e : Lib.decDigits u = Lib.decDigits (u / 10) ++ [UInt8.ofNat (48 + u % 10)] := by
    rw [Lib.decDigits, dif_neg (by omega)]
  unfold decS
  rw [e]
  apply ByteArray.ext
  simp [UInt8.ofNat_add]


end Go.Proofs.YteajjaenmbigeaaDoor
