/-
  The laws' own markText: for every number from 1 to a billion it answers some text, and turns nothing that was there.
-/
import Derived.Test.YthmhpgbkapjjkaaLists0
namespace Go.Proofs.Ythmhpgbkapjjkaa
open Go.ChangeShapes Go.WideShapes Go.ChangeAt Go.RowKit
set_option linter.unusedVariables false

theorem oneByte (v : Nat) (hv : v < 256) (w : World) (b : Nat) (h : w.cell? ⟨b, 0, none⟩ = some (.int .u8 (v : Int))) :
    (convert 22 9 (.slice (some ⟨b, 0, none⟩) 1 1)).run Try.prog w = .ok (.string ⟨#[UInt8.ofNat v]⟩) w := by
  have e : (UInt8.ofNat v).toNat = v := by simp; omega
  exact run_convert_bytes_back (P := Try.prog) w 22 9 5 ⟨b, 0, none⟩ 1 [UInt8.ofNat v] Try.underlying22 Try.underlying5 Try.underlying9 (by
    intro j hj
    have hj0 : j = 0 := by simp at hj; exact hj
    subst hj0
    show w.cell? _ = some (.int .u8 ((UInt8.ofNat v).toNat : Int))
    rw [e]; simpa [Addr.add] using h)

/-- The digits of u, ahead of s. -/
def mkRun : Nat → Nat → ByteArray → ByteArray
  | 0, _, s => s
  | f + 1, u, s => if u = 0 then s else mkRun f (u / 10) (⟨#[UInt8.ofNat (48 + u % 10)]⟩ ++ s)
def mkS (u : Nat) : ByteArray := ⟨#[109]⟩ ++ mkRun u u ⟨#[]⟩
theorem mkRun_zero : ∀ f s, mkRun f 0 s = s
  | 0, s => rfl
  | f + 1, s => by unfold mkRun; rw [if_pos rfl]

end Go.Proofs.Ythmhpgbkapjjkaa
