/-
  DERIVED. GIVEN WITH THE SEED: THE CARDS: each row of YtlejmjpjlbiojaaDoorRows.lean that lists a variable, with what it lists TIED to the program's text (the seventh form; the later family's looks); each row that meets fmt, with fmt's text TOLD by the authors' own Lean function (tested against real Go, not proved from fmt's source: count such statements apart). THE CARD IS WHAT COUNTS. Prove the row's statement (the work); the ties are given (YtlejmjpjlbiojaaDoorTie.lean); close each card by the builder's one call (the guide's Derived/Test/ToyasCard.lean, 'card_holds'). Laid BY PROGRAM, IN A SANDBOX (cutbox-door.mjs). By AI agents, Wed Nov 11 2026. No macro, syntax, notation, axiom, sorry.
-/
import Derived.Test.YtlejmjpjlbiojaaDoorRows
import GoSem.ClaimSeven
namespace Go.Proofs.YtlejmjpjlbiojaaDoor
namespace Rows

/-- THE TIED CARD OF 'laws.FnScan'. -/
def fnScanCard : Claim7 := { stood := { row := fnScanRow, standIns := [], harness := (true, "e3d05f6e22b24bf835b77de21ee38980501641f8022fe446d062d6a46d3143c9"), looks := false }, kinds := [], alts := [], laidByText := true, laidKinds := [.data, .data, .data], laidTests := true, laidLooks := .later }
def FnScanCardSaid : Prop := Claim7.holds Tryd.pinned (.plain (OpenSpec.ofChange fnScanSpec)) fnScanCard

/-- THE TIED CARD OF 'laws.FnExactMakeScan'. -/
def fnExactMakeScanCard : Claim7 := { stood := { row := fnExactMakeScanRow, standIns := [], harness := (true, "e3d05f6e22b24bf835b77de21ee38980501641f8022fe446d062d6a46d3143c9"), looks := false }, kinds := [], alts := [], laidByText := true, laidKinds := [.data, .data, .data], laidTests := true, laidLooks := .later }
def FnExactMakeScanCardSaid : Prop := Claim7.holds Tryd.pinned (.plain (OpenSpec.ofChange fnExactMakeScanSpec)) fnExactMakeScanCard

/-- THE SECOND FORM's CARD OF 'laws.FnScan'. -/
def fnScanUptoCard : Claim7 := { stood := { row := fnScanUptoRow, standIns := [], harness := (true, "e3d05f6e22b24bf835b77de21ee38980501641f8022fe446d062d6a46d3143c9"), looks := false }, kinds := [], alts := [], laidByText := true, laidKinds := [.data, .data, .data], laidTests := true, laidLooks := .later }
def FnScanUptoCardSaid : Prop := Claim7.holds Tryd.pinned (.plain (OpenSpec.upto fnScanSpec)) fnScanUptoCard

/-- THE SECOND FORM's CARD OF 'laws.FnExactMakeScan'. -/
def fnExactMakeScanUptoCard : Claim7 := { stood := { row := fnExactMakeScanUptoRow, standIns := [], harness := (true, "e3d05f6e22b24bf835b77de21ee38980501641f8022fe446d062d6a46d3143c9"), looks := false }, kinds := [], alts := [], laidByText := true, laidKinds := [.data, .data, .data], laidTests := true, laidLooks := .later }
def FnExactMakeScanUptoCardSaid : Prop := Claim7.holds Tryd.pinned (.plain (OpenSpec.upto fnExactMakeScanSpec)) fnExactMakeScanUptoCard
end Rows
end Go.Proofs.YtlejmjpjlbiojaaDoor
