/-
  DERIVED. GIVEN WITH THE SEED: THE CARDS: each row of YtbfmnjnndohojajDoorRows.lean that lists a variable, with what it lists TIED to the program's text (the seventh form; the later family's looks); each row that meets fmt, with fmt's text TOLD by the authors' own Lean function (tested against real Go, not proved from fmt's source: count such statements apart). THE CARD IS WHAT COUNTS. Prove the row's statement (the work); the ties are given (YtbfmnjnndohojajDoorTie.lean); close each card by the builder's one call (the guide's Derived/Test/ToyasCard.lean, 'card_holds'). Laid BY PROGRAM, IN A SANDBOX (cutbox-door.mjs). By AI agents, Wed Nov 11 2026. No macro, syntax, notation, axiom, sorry.
-/
import Derived.Test.YtbfmnjnndohojajDoorRows
import GoSem.ClaimSeven
namespace Go.Proofs.YtbfmnjnndohojajDoor
namespace Rows

/-- THE TIED CARD OF 'laws.FnExactMakeScan'. -/
def fnExactMakeScanCard : Claim7 := { stood := { row := fnExactMakeScanRow, standIns := [], harness := (true, "e5fe37c3fc4944785c27e4cd969aa1d839b0e21382a2f312aa539e52c5cf2a31"), looks := false }, kinds := [], alts := [], laidByText := true, laidKinds := [.data, .data, .data], laidTests := true, laidLooks := .later }
def FnExactMakeScanCardSaid : Prop := Claim7.holds Tryd.pinned (.plain (OpenSpec.ofChange fnExactMakeScanSpec)) fnExactMakeScanCard

/-- THE SECOND FORM's CARD OF 'laws.FnExactMakeScan'. -/
def fnExactMakeScanUptoCard : Claim7 := { stood := { row := fnExactMakeScanUptoRow, standIns := [], harness := (true, "e5fe37c3fc4944785c27e4cd969aa1d839b0e21382a2f312aa539e52c5cf2a31"), looks := false }, kinds := [], alts := [], laidByText := true, laidKinds := [.data, .data, .data], laidTests := true, laidLooks := .later }
def FnExactMakeScanUptoCardSaid : Prop := Claim7.holds Tryd.pinned (.plain (OpenSpec.upto fnExactMakeScanSpec)) fnExactMakeScanUptoCard
end Rows
end Go.Proofs.YtbfmnjnndohojajDoor
