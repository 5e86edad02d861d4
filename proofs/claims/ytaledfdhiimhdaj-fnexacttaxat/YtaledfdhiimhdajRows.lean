/-
  No cell of these rows narrows 'for every input' (looked for: loops, veiled, ifaces, maps, wideKeys, modest, calm, conditions, laid).
  DERIVED. THE GIVEN ROWS OF THIS SEAT. 5 by the template 'for every input the law returns true; each argument reads behind the call as it read before'; 0 by the template 'total and deterministic' (their statements: YtaledfdhiimhdajTotals.lean).
  GIVEN WITH THE SEED: the statements are not yours to turn. If you find one false, say at which input.
  Laid BY PROGRAM, IN A SANDBOX (cutbox-rows.mjs): the forced cells as the released guide's own fill.sh prints them over the translation 3ef7b743b14e365c… (all of the seat's roots in one cut). By AI agents, Wed Nov 11 2026. No macro, syntax, notation, axiom, sorry.
-/
import Derived.Test.YtaledfdhiimhdajChecked
import GoSem.Claim
import GoSem.ClaimJoined
import GoSem.ClaimMapViews
import Derived.JoinedTies
import Derived.KernelRfl
namespace Go.Proofs.Ytaledfdhiimhdaj
/- THE CELL 'sum', in the pinned program and in every row, IS THE sha256 OF THE DUMP (.gsa) THAT YtaledfdhiimhdajProg.lean LOADS. Nothing in Lean hashes anything: it is a label: what it is worth is what the hold of that sum in a sandbox is worth. -/
noncomputable def Try.pinned : Pinned := { name := "ytaledfdhiimhdaj", sum := "3ef7b743b14e365c9cc9257938ea2c3ec1de948c1ab3081a6be275febada7d98", checked := Try.checked }
namespace Rows
def none {H : Type} : Left H := { results := [], args := [] }

/-- 'laws.FnExactPackUnits': WHATEVER THE INPUT: true; the input reads as it did. -/
def fnExactPackUnitsSpec : ChangeSpec := { name := "fnExactPackUnits", fn := fun _ => fun
  | [d] => { results := [.lit (.bool true)], args := [d] }
  | _ => none }
def fnExactPackUnitsRow : OpenClaim := { program := "ytaledfdhiimhdaj", sum := "3ef7b743b14e365c9cc9257938ea2c3ec1de948c1ab3081a6be275febada7d98", func := "loop.example/g00067/laws.FnExactPackUnits", spec := "fnExactPackUnits", plainKeys := false, apart := false }
def FnExactPackUnitsSaid : Prop := fnExactPackUnitsRow.holds Try.pinned (OpenSpec.ofChange fnExactPackUnitsSpec)

/-- ITS FALSE NEIGHBOUR: 'it returns false'. Refute it at one input. -/
def fnExactPackUnitsWrong : ChangeSpec := { name := "fnExactPackUnits", fn := fun _ => fun
  | [d] => { results := [.lit (.bool false)], args := [d] }
  | _ => none }
def FnExactPackUnitsWrongFalsely : Prop := fnExactPackUnitsRow.holds Try.pinned (OpenSpec.ofChange fnExactPackUnitsWrong)

/-- 'laws.FnExactUnpack': WHATEVER THE INPUT: true; the input reads as it did. -/
def fnExactUnpackSpec : ChangeSpec := { name := "fnExactUnpack", fn := fun _ => fun
  | [d1, d2] => { results := [.lit (.bool true)], args := [d1, d2] }
  | _ => none }
def fnExactUnpackRow : OpenClaim := { program := "ytaledfdhiimhdaj", sum := "3ef7b743b14e365c9cc9257938ea2c3ec1de948c1ab3081a6be275febada7d98", func := "loop.example/g00067/laws.FnExactUnpack", spec := "fnExactUnpack", plainKeys := false, apart := false }
def FnExactUnpackSaid : Prop := fnExactUnpackRow.holds Try.pinned (OpenSpec.ofChange fnExactUnpackSpec)

/-- ITS FALSE NEIGHBOUR: 'it returns false'. Refute it at one input. -/
def fnExactUnpackWrong : ChangeSpec := { name := "fnExactUnpack", fn := fun _ => fun
  | [d1, d2] => { results := [.lit (.bool false)], args := [d1, d2] }
  | _ => none }
def FnExactUnpackWrongFalsely : Prop := fnExactUnpackRow.holds Try.pinned (OpenSpec.ofChange fnExactUnpackWrong)

/-- 'laws.FnExactTaxRowsOK': WHATEVER THE INPUT: true; the input reads as it did. -/
def fnExactTaxRowsOKSpec : ChangeSpec := { name := "fnExactTaxRowsOK", fn := fun _ => fun
  | [d] => { results := [.lit (.bool true)], args := [d] }
  | _ => none }
def fnExactTaxRowsOKRow : OpenClaim := { program := "ytaledfdhiimhdaj", sum := "3ef7b743b14e365c9cc9257938ea2c3ec1de948c1ab3081a6be275febada7d98", func := "loop.example/g00067/laws.FnExactTaxRowsOK", spec := "fnExactTaxRowsOK", unfollowed := true, recurses := true, plainKeys := false, apart := false }
def FnExactTaxRowsOKSaid : Prop := fnExactTaxRowsOKRow.holds Try.pinned (OpenSpec.ofChange fnExactTaxRowsOKSpec)

/-- ITS FALSE NEIGHBOUR: 'it returns false'. Refute it at one input. -/
def fnExactTaxRowsOKWrong : ChangeSpec := { name := "fnExactTaxRowsOK", fn := fun _ => fun
  | [d] => { results := [.lit (.bool false)], args := [d] }
  | _ => none }
def FnExactTaxRowsOKWrongFalsely : Prop := fnExactTaxRowsOKRow.holds Try.pinned (OpenSpec.ofChange fnExactTaxRowsOKWrong)

/-- 'laws.FnExactTaxAt': WHATEVER THE INPUT: true; the input reads as it did. -/
def fnExactTaxAtSpec : ChangeSpec := { name := "fnExactTaxAt", fn := fun _ => fun
  | [d1, d2, d3, d4] => { results := [.lit (.bool true)], args := [d1, d2, d3, d4] }
  | _ => none }
def fnExactTaxAtRow : OpenClaim := { program := "ytaledfdhiimhdaj", sum := "3ef7b743b14e365c9cc9257938ea2c3ec1de948c1ab3081a6be275febada7d98", func := "loop.example/g00067/laws.FnExactTaxAt", spec := "fnExactTaxAt", unfollowed := true, recurses := true, plainKeys := false, apart := false }
def FnExactTaxAtSaid : Prop := fnExactTaxAtRow.holds Try.pinned (OpenSpec.ofChange fnExactTaxAtSpec)

/-- ITS FALSE NEIGHBOUR: 'it returns false'. Refute it at one input. -/
def fnExactTaxAtWrong : ChangeSpec := { name := "fnExactTaxAt", fn := fun _ => fun
  | [d1, d2, d3, d4] => { results := [.lit (.bool false)], args := [d1, d2, d3, d4] }
  | _ => none }
def FnExactTaxAtWrongFalsely : Prop := fnExactTaxAtRow.holds Try.pinned (OpenSpec.ofChange fnExactTaxAtWrong)

/-- 'laws.FnExactSplit': WHATEVER THE INPUT: true; the input reads as it did. -/
def fnExactSplitSpec : ChangeSpec := { name := "fnExactSplit", fn := fun _ => fun
  | [d1, d2] => { results := [.lit (.bool true)], args := [d1, d2] }
  | _ => none }
def fnExactSplitRow : OpenClaim := { program := "ytaledfdhiimhdaj", sum := "3ef7b743b14e365c9cc9257938ea2c3ec1de948c1ab3081a6be275febada7d98", func := "loop.example/g00067/laws.FnExactSplit", spec := "fnExactSplit", unfollowed := true, recurses := true, plainKeys := false, apart := false }
def FnExactSplitSaid : Prop := fnExactSplitRow.holds Try.pinned (OpenSpec.ofChange fnExactSplitSpec)

/-- ITS FALSE NEIGHBOUR: 'it returns false'. Refute it at one input. -/
def fnExactSplitWrong : ChangeSpec := { name := "fnExactSplit", fn := fun _ => fun
  | [d1, d2] => { results := [.lit (.bool false)], args := [d1, d2] }
  | _ => none }
def FnExactSplitWrongFalsely : Prop := fnExactSplitRow.holds Try.pinned (OpenSpec.ofChange fnExactSplitWrong)

/- THE SECOND FORM. 'bulk': how many values and letters a reading holds, each counted each time it is reached (what is shared counts as often as it is met; a slice's spare places count too). A statement '..UptoSaid' is the law's where the arguments, and the package variables that the reading takes, are together of bulk at most 1048576: NARROWER than '..Said'. Prove '..Said' where nothing that the law and all that it calls make is longer than what came in: it says more and counts as full. Else prove '..UptoSaid'. A law counts once. -/
mutual
def uptoBulk {H : Type} : DataW H → Nat
  | .lit (.string bytes) => bytes.length + 1
  | .lit _ => 1
  | .nil => 1
  | .ptr d => uptoBulk d + 1
  | .slice elems spare => uptoBulkAll elems + uptoBulkAll spare + 1
  | .agg parts => uptoBulkAll parts + 1
  | .iface _ d => uptoBulk d + 1
  | .map entries => uptoBulkEntries entries + 1
  | .held _ => 1
def uptoBulkAll {H : Type} : List (DataW H) → Nat
  | [] => 0
  | d :: r => uptoBulk d + uptoBulkAll r
def uptoBulkEntries {H : Type} : List (Lit × DataW H) → Nat
  | [] => 0
  | x :: r => uptoBulkEntry x + uptoBulkEntries r
def uptoBulkEntry {H : Type} : Lit × DataW H → Nat
  | (.string bytes, d) => bytes.length + uptoBulk d + 1
  | (_, d) => uptoBulk d + 1
 end
def uptoSmall : (H : Type) → List (DataW H) → Bool := fun _ ds => decide (uptoBulkAll ds ≤ 1048576)
def OpenSpec.upto (s : _root_.Go.ChangeSpec) : _root_.Go.OpenSpec := { _root_.Go.OpenSpec.ofChange s with cond := some uptoSmall }

/-- 'laws.FnExactPackUnits', WHERE WHAT IT READS IS OF BULK AT MOST 1048576: true; the input reads as it did. -/
def fnExactPackUnitsUptoRow : OpenClaim := { program := "ytaledfdhiimhdaj", sum := "3ef7b743b14e365c9cc9257938ea2c3ec1de948c1ab3081a6be275febada7d98", func := "loop.example/g00067/laws.FnExactPackUnits", spec := "fnExactPackUnits", plainKeys := false, apart := false, narrowed := true }
def FnExactPackUnitsUptoSaid : Prop := fnExactPackUnitsUptoRow.holds Try.pinned (OpenSpec.upto fnExactPackUnitsSpec)

/-- 'laws.FnExactUnpack', WHERE WHAT IT READS IS OF BULK AT MOST 1048576: true; the input reads as it did. -/
def fnExactUnpackUptoRow : OpenClaim := { program := "ytaledfdhiimhdaj", sum := "3ef7b743b14e365c9cc9257938ea2c3ec1de948c1ab3081a6be275febada7d98", func := "loop.example/g00067/laws.FnExactUnpack", spec := "fnExactUnpack", plainKeys := false, apart := false, narrowed := true }
def FnExactUnpackUptoSaid : Prop := fnExactUnpackUptoRow.holds Try.pinned (OpenSpec.upto fnExactUnpackSpec)

/-- 'laws.FnExactTaxRowsOK', WHERE WHAT IT READS IS OF BULK AT MOST 1048576: true; the input reads as it did. -/
def fnExactTaxRowsOKUptoRow : OpenClaim := { program := "ytaledfdhiimhdaj", sum := "3ef7b743b14e365c9cc9257938ea2c3ec1de948c1ab3081a6be275febada7d98", func := "loop.example/g00067/laws.FnExactTaxRowsOK", spec := "fnExactTaxRowsOK", unfollowed := true, recurses := true, plainKeys := false, apart := false, narrowed := true }
def FnExactTaxRowsOKUptoSaid : Prop := fnExactTaxRowsOKUptoRow.holds Try.pinned (OpenSpec.upto fnExactTaxRowsOKSpec)

/-- 'laws.FnExactTaxAt', WHERE WHAT IT READS IS OF BULK AT MOST 1048576: true; the input reads as it did. -/
def fnExactTaxAtUptoRow : OpenClaim := { program := "ytaledfdhiimhdaj", sum := "3ef7b743b14e365c9cc9257938ea2c3ec1de948c1ab3081a6be275febada7d98", func := "loop.example/g00067/laws.FnExactTaxAt", spec := "fnExactTaxAt", unfollowed := true, recurses := true, plainKeys := false, apart := false, narrowed := true }
def FnExactTaxAtUptoSaid : Prop := fnExactTaxAtUptoRow.holds Try.pinned (OpenSpec.upto fnExactTaxAtSpec)

/-- 'laws.FnExactSplit', WHERE WHAT IT READS IS OF BULK AT MOST 1048576: true; the input reads as it did. -/
def fnExactSplitUptoRow : OpenClaim := { program := "ytaledfdhiimhdaj", sum := "3ef7b743b14e365c9cc9257938ea2c3ec1de948c1ab3081a6be275febada7d98", func := "loop.example/g00067/laws.FnExactSplit", spec := "fnExactSplit", unfollowed := true, recurses := true, plainKeys := false, apart := false, narrowed := true }
def FnExactSplitUptoSaid : Prop := fnExactSplitUptoRow.holds Try.pinned (OpenSpec.upto fnExactSplitSpec)

end Rows
end Go.Proofs.Ytaledfdhiimhdaj
