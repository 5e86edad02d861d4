/-
  No cell of these rows narrows 'for every input' (looked for: loops, veiled, ifaces, maps, wideKeys, modest, calm, conditions, laid).
  DERIVED. THE GIVEN ROWS OF THIS SEAT. 4 by the template 'for every input the law returns true; each argument reads behind the call as it read before'; 0 by the template 'total and deterministic' (their statements: YtbkaikobjkkgkaaTotals.lean).
  GIVEN WITH THE SEED: the statements are not yours to turn. If you find one false, say at which input.
  Laid BY PROGRAM, IN A SANDBOX (cutbox-rows.mjs): the forced cells as the released guide's own fill.sh prints them over the translation c6f3f7439f1429f2… (all of the seat's roots in one cut). By AI agents, Wed Nov 11 2026. No macro, syntax, notation, axiom, sorry.
-/
import Derived.Test.YtbkaikobjkkgkaaChecked
import GoSem.Claim
import GoSem.ClaimJoined
import GoSem.ClaimMapViews
import Derived.JoinedTies
import Derived.KernelRfl
namespace Go.Proofs.Ytbkaikobjkkgkaa
/- THE CELL 'sum', in the pinned program and in every row, IS THE sha256 OF THE DUMP (.gsa) THAT YtbkaikobjkkgkaaProg.lean LOADS. Nothing in Lean hashes anything: it is a label: what it is worth is what the hold of that sum in a sandbox is worth. -/
noncomputable def Try.pinned : Pinned := { name := "ytbkaikobjkkgkaa", sum := "c6f3f7439f1429f2e2cdc6350d4684b8d9f6e0da4ecfdf8aa7ba58be30a3f8b0", checked := Try.checked }
namespace Rows
def none {H : Type} : Left H := { results := [], args := [] }

/-- 'laws.FnExactPricesOK': WHATEVER THE INPUT: true; the input reads as it did. -/
def fnExactPricesOKSpec : ChangeSpec := { name := "fnExactPricesOK", fn := fun _ => fun
  | [d] => { results := [.lit (.bool true)], args := [d] }
  | _ => none }
def fnExactPricesOKRow : OpenClaim := { program := "ytbkaikobjkkgkaa", sum := "c6f3f7439f1429f2e2cdc6350d4684b8d9f6e0da4ecfdf8aa7ba58be30a3f8b0", func := "loop.example/g00067/laws.FnExactPricesOK", spec := "fnExactPricesOK", unfollowed := true, recurses := true, apart := false }
def FnExactPricesOKSaid : Prop := fnExactPricesOKRow.holds Try.pinned (OpenSpec.ofChange fnExactPricesOKSpec)

/-- ITS FALSE NEIGHBOUR: 'it returns false'. Refute it at one input. -/
def fnExactPricesOKWrong : ChangeSpec := { name := "fnExactPricesOK", fn := fun _ => fun
  | [d] => { results := [.lit (.bool false)], args := [d] }
  | _ => none }
def FnExactPricesOKWrongFalsely : Prop := fnExactPricesOKRow.holds Try.pinned (OpenSpec.ofChange fnExactPricesOKWrong)

/-- 'laws.FnExactPriceAt': WHATEVER THE INPUT: true; the input reads as it did. -/
def fnExactPriceAtSpec : ChangeSpec := { name := "fnExactPriceAt", fn := fun _ => fun
  | [d1, d2, d3, d4] => { results := [.lit (.bool true)], args := [d1, d2, d3, d4] }
  | _ => none }
def fnExactPriceAtRow : OpenClaim := { program := "ytbkaikobjkkgkaa", sum := "c6f3f7439f1429f2e2cdc6350d4684b8d9f6e0da4ecfdf8aa7ba58be30a3f8b0", func := "loop.example/g00067/laws.FnExactPriceAt", spec := "fnExactPriceAt", unfollowed := true, recurses := true, apart := false }
def FnExactPriceAtSaid : Prop := fnExactPriceAtRow.holds Try.pinned (OpenSpec.ofChange fnExactPriceAtSpec)

/-- ITS FALSE NEIGHBOUR: 'it returns false'. Refute it at one input. -/
def fnExactPriceAtWrong : ChangeSpec := { name := "fnExactPriceAt", fn := fun _ => fun
  | [d1, d2, d3, d4] => { results := [.lit (.bool false)], args := [d1, d2, d3, d4] }
  | _ => none }
def FnExactPriceAtWrongFalsely : Prop := fnExactPriceAtRow.holds Try.pinned (OpenSpec.ofChange fnExactPriceAtWrong)

/-- 'laws.FnExactPriceSteps': WHATEVER THE INPUT: true; the input reads as it did. -/
def fnExactPriceStepsSpec : ChangeSpec := { name := "fnExactPriceSteps", fn := fun _ => fun
  | [d1, d2, d3, d4, d5] => { results := [.lit (.bool true)], args := [d1, d2, d3, d4, d5] }
  | _ => none }
def fnExactPriceStepsRow : OpenClaim := { program := "ytbkaikobjkkgkaa", sum := "c6f3f7439f1429f2e2cdc6350d4684b8d9f6e0da4ecfdf8aa7ba58be30a3f8b0", func := "loop.example/g00067/laws.FnExactPriceSteps", spec := "fnExactPriceSteps", unfollowed := true, recurses := true, apart := false }
def FnExactPriceStepsSaid : Prop := fnExactPriceStepsRow.holds Try.pinned (OpenSpec.ofChange fnExactPriceStepsSpec)

/-- ITS FALSE NEIGHBOUR: 'it returns false'. Refute it at one input. -/
def fnExactPriceStepsWrong : ChangeSpec := { name := "fnExactPriceSteps", fn := fun _ => fun
  | [d1, d2, d3, d4, d5] => { results := [.lit (.bool false)], args := [d1, d2, d3, d4, d5] }
  | _ => none }
def FnExactPriceStepsWrongFalsely : Prop := fnExactPriceStepsRow.holds Try.pinned (OpenSpec.ofChange fnExactPriceStepsWrong)

/-- 'laws.FnExactByWeight': WHATEVER THE INPUT: true; the input reads as it did. -/
def fnExactByWeightSpec : ChangeSpec := { name := "fnExactByWeight", fn := fun _ => fun
  | [d1, d2] => { results := [.lit (.bool true)], args := [d1, d2] }
  | _ => none }
def fnExactByWeightRow : OpenClaim := { program := "ytbkaikobjkkgkaa", sum := "c6f3f7439f1429f2e2cdc6350d4684b8d9f6e0da4ecfdf8aa7ba58be30a3f8b0", func := "loop.example/g00067/laws.FnExactByWeight", spec := "fnExactByWeight", unfollowed := true, recurses := true, apart := false }
def FnExactByWeightSaid : Prop := fnExactByWeightRow.holds Try.pinned (OpenSpec.ofChange fnExactByWeightSpec)

/-- ITS FALSE NEIGHBOUR: 'it returns false'. Refute it at one input. -/
def fnExactByWeightWrong : ChangeSpec := { name := "fnExactByWeight", fn := fun _ => fun
  | [d1, d2] => { results := [.lit (.bool false)], args := [d1, d2] }
  | _ => none }
def FnExactByWeightWrongFalsely : Prop := fnExactByWeightRow.holds Try.pinned (OpenSpec.ofChange fnExactByWeightWrong)

/- THE SECOND FORM. 'bulk': how many values and letters a reading holds, each counted each time it is reached (what is shared counts as often as it is met; a slice's spare places count too). A statement '..UptoSaid' is the law's where the arguments, and the package variables that the reading takes, are together of bulk at most 1048576: NARROWER than '..Said'. Prove '..Said' where nothing that the law and all that it calls make is longer than what came in: it says more and counts as full. Else prove '..UptoSaid'. A law counts once. -/
mutual
def uptoBulk {H : Type} : DataW H → Nat
  | .lit (.string bytes) => bytes.length + 1
  | .lit _ => 1
  | .nil => 1
  | .ptr d => uptoBulk d + 1
  | .slice elems spare => uptoBulkAll elems + uptoBulkAll spare + 1
  | .agg parts => uptoBulkAll parts + 1
  | .iface _ d => uptoBulk d + 1
  | .map entries => uptoBulkEntries entries + 1
  | .held _ => 1
def uptoBulkAll {H : Type} : List (DataW H) → Nat
  | [] => 0
  | d :: r => uptoBulk d + uptoBulkAll r
def uptoBulkEntries {H : Type} : List (Lit × DataW H) → Nat
  | [] => 0
  | x :: r => uptoBulkEntry x + uptoBulkEntries r
def uptoBulkEntry {H : Type} : Lit × DataW H → Nat
  | (.string bytes, d) => bytes.length + uptoBulk d + 1
  | (_, d) => uptoBulk d + 1
 end
def uptoSmall : (H : Type) → List (DataW H) → Bool := fun _ ds => decide (uptoBulkAll ds ≤ 1048576)
def OpenSpec.upto (s : _root_.Go.ChangeSpec) : _root_.Go.OpenSpec := { _root_.Go.OpenSpec.ofChange s with cond := some uptoSmall }

/-- 'laws.FnExactPricesOK', WHERE WHAT IT READS IS OF BULK AT MOST 1048576: true; the input reads as it did. -/
def fnExactPricesOKUptoRow : OpenClaim := { program := "ytbkaikobjkkgkaa", sum := "c6f3f7439f1429f2e2cdc6350d4684b8d9f6e0da4ecfdf8aa7ba58be30a3f8b0", func := "loop.example/g00067/laws.FnExactPricesOK", spec := "fnExactPricesOK", unfollowed := true, recurses := true, apart := false, narrowed := true }
def FnExactPricesOKUptoSaid : Prop := fnExactPricesOKUptoRow.holds Try.pinned (OpenSpec.upto fnExactPricesOKSpec)

/-- 'laws.FnExactPriceAt', WHERE WHAT IT READS IS OF BULK AT MOST 1048576: true; the input reads as it did. -/
def fnExactPriceAtUptoRow : OpenClaim := { program := "ytbkaikobjkkgkaa", sum := "c6f3f7439f1429f2e2cdc6350d4684b8d9f6e0da4ecfdf8aa7ba58be30a3f8b0", func := "loop.example/g00067/laws.FnExactPriceAt", spec := "fnExactPriceAt", unfollowed := true, recurses := true, apart := false, narrowed := true }
def FnExactPriceAtUptoSaid : Prop := fnExactPriceAtUptoRow.holds Try.pinned (OpenSpec.upto fnExactPriceAtSpec)

/-- 'laws.FnExactPriceSteps', WHERE WHAT IT READS IS OF BULK AT MOST 1048576: true; the input reads as it did. -/
def fnExactPriceStepsUptoRow : OpenClaim := { program := "ytbkaikobjkkgkaa", sum := "c6f3f7439f1429f2e2cdc6350d4684b8d9f6e0da4ecfdf8aa7ba58be30a3f8b0", func := "loop.example/g00067/laws.FnExactPriceSteps", spec := "fnExactPriceSteps", unfollowed := true, recurses := true, apart := false, narrowed := true }
def FnExactPriceStepsUptoSaid : Prop := fnExactPriceStepsUptoRow.holds Try.pinned (OpenSpec.upto fnExactPriceStepsSpec)

/-- 'laws.FnExactByWeight', WHERE WHAT IT READS IS OF BULK AT MOST 1048576: true; the input reads as it did. -/
def fnExactByWeightUptoRow : OpenClaim := { program := "ytbkaikobjkkgkaa", sum := "c6f3f7439f1429f2e2cdc6350d4684b8d9f6e0da4ecfdf8aa7ba58be30a3f8b0", func := "loop.example/g00067/laws.FnExactByWeight", spec := "fnExactByWeight", unfollowed := true, recurses := true, apart := false, narrowed := true }
def FnExactByWeightUptoSaid : Prop := fnExactByWeightUptoRow.holds Try.pinned (OpenSpec.upto fnExactByWeightSpec)

end Rows
end Go.Proofs.Ytbkaikobjkkgkaa
