/-
  Contract of the program's TaxRowsOK, for every list of rows.
-/
import Derived.Test.YtoaimjocphfcaaaTaxD
namespace Go.Proofs.Ytoaimjocphfcaaa
open Go.ChangeShapes Go.WideShapes Go.ChangeAt Go.RowKit
set_option linter.unusedVariables false

theorem implRows_any (a : Option Addr) (cap : Nat) (rs : List TR) (hl : rs.length ≤ 100000000) (hp : ∀ r ∈ rs, TrOK r) (w : World) (hr : ReadsT w.heap.size w a rs) :
    Calls Try.prog 5 #[.slice a rs.length cap] w fun e w' => e = .returned (.bool (trAll rs)) ∧ Below w.heap.size w w' := by
  have ht := table_any a cap rs hl hp w hr
  clear hr hp
  obtain ⟨b, hbe⟩ : ∃ b, trAll rs = b := ⟨_, rfl⟩
  rw [hbe]
  have HBe : Hid (trAll rs = b) := hbe
  clear hbe
  go_enter Try.func5, Try.ntmps5
  go_wp2_with (go_at_call 13; refine ht.mono ?_; rintro e w2 h2; rcases h2 with ⟨h0, rfl, hb2⟩ | ⟨h0, _, b2, rfl, _, _, hb2⟩)
  · go_ret
    exact ⟨ret_bool (h0.symm.trans HBe.out), hb2⟩
  · go_ret
    exact ⟨ret_bool (h0.symm.trans HBe.out), hb2⟩
end Go.Proofs.Ytoaimjocphfcaaa
