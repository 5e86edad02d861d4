/-
  No cell of these rows narrows 'for every input' (looked for: loops, veiled, ifaces, maps, wideKeys, modest, calm, conditions, laid).
  DERIVED. THE GIVEN ROWS OF THIS SEAT. 4 by the template 'for every input the law returns true; each argument reads behind the call as it read before'; 0 by the template 'total and deterministic' (their statements: YtaledfdhiimhdaaTotals.lean).
  GIVEN WITH THE SEED: the statements are not yours to turn. If you find one false, say at which input.
  Laid BY PROGRAM, IN A SANDBOX (cutbox-rows.mjs): the forced cells as the released guide's own fill.sh prints them over the translation 19392a2d9e6358b3… (all of the seat's roots in one cut). By AI agents, Wed Nov 11 2026. No macro, syntax, notation, axiom, sorry.
-/
import Derived.Test.YtaledfdhiimhdaaChecked
import GoSem.Claim
import GoSem.ClaimJoined
import GoSem.ClaimMapViews
import Derived.JoinedTies
import Derived.KernelRfl
namespace Go.Proofs.Ytaledfdhiimhdaa
/- THE CELL 'sum', in the pinned program and in every row, IS THE sha256 OF THE DUMP (.gsa) THAT YtaledfdhiimhdaaProg.lean LOADS. Nothing in Lean hashes anything: it is a label: what it is worth is what the hold of that sum in a sandbox is worth. -/
noncomputable def Try.pinned : Pinned := { name := "ytaledfdhiimhdaa", sum := "19392a2d9e6358b30aa9e7af2e6467324648fff1b8f698b7d118b73fb4d45650", checked := Try.checked }
namespace Rows
def none {H : Type} : Left H := { results := [], args := [] }

/-- 'laws.FnShare': WHATEVER THE INPUT: true; the input reads as it did. -/
def fnShareSpec : ChangeSpec := { name := "fnShare", fn := fun _ => fun
  | [d1, d2] => { results := [.lit (.bool true)], args := [d1, d2] }
  | _ => none }
def fnShareRow : OpenClaim := { program := "ytaledfdhiimhdaa", sum := "19392a2d9e6358b30aa9e7af2e6467324648fff1b8f698b7d118b73fb4d45650", func := "loop.example/g00067/laws.FnShare", spec := "fnShare", plainKeys := false, apart := false }
def FnShareSaid : Prop := fnShareRow.holds Try.pinned (OpenSpec.ofChange fnShareSpec)

/-- ITS FALSE NEIGHBOUR: 'it returns false'. Refute it at one input. -/
def fnShareWrong : ChangeSpec := { name := "fnShare", fn := fun _ => fun
  | [d1, d2] => { results := [.lit (.bool false)], args := [d1, d2] }
  | _ => none }
def FnShareWrongFalsely : Prop := fnShareRow.holds Try.pinned (OpenSpec.ofChange fnShareWrong)

/-- 'laws.FnCash': WHATEVER THE INPUT: true; the input reads as it did. -/
def fnCashSpec : ChangeSpec := { name := "fnCash", fn := fun _ => fun
  | [d1, d2] => { results := [.lit (.bool true)], args := [d1, d2] }
  | _ => none }
def fnCashRow : OpenClaim := { program := "ytaledfdhiimhdaa", sum := "19392a2d9e6358b30aa9e7af2e6467324648fff1b8f698b7d118b73fb4d45650", func := "loop.example/g00067/laws.FnCash", spec := "fnCash", unfollowed := true, recurses := true, plainKeys := false, apart := false }
def FnCashSaid : Prop := fnCashRow.holds Try.pinned (OpenSpec.ofChange fnCashSpec)

/-- ITS FALSE NEIGHBOUR: 'it returns false'. Refute it at one input. -/
def fnCashWrong : ChangeSpec := { name := "fnCash", fn := fun _ => fun
  | [d1, d2] => { results := [.lit (.bool false)], args := [d1, d2] }
  | _ => none }
def FnCashWrongFalsely : Prop := fnCashRow.holds Try.pinned (OpenSpec.ofChange fnCashWrong)

/-- 'laws.FnPacks': WHATEVER THE INPUT: true; the input reads as it did. -/
def fnPacksSpec : ChangeSpec := { name := "fnPacks", fn := fun _ => fun
  | [d] => { results := [.lit (.bool true)], args := [d] }
  | _ => none }
def fnPacksRow : OpenClaim := { program := "ytaledfdhiimhdaa", sum := "19392a2d9e6358b30aa9e7af2e6467324648fff1b8f698b7d118b73fb4d45650", func := "loop.example/g00067/laws.FnPacks", spec := "fnPacks", plainKeys := false, apart := false }
def FnPacksSaid : Prop := fnPacksRow.holds Try.pinned (OpenSpec.ofChange fnPacksSpec)

/-- ITS FALSE NEIGHBOUR: 'it returns false'. Refute it at one input. -/
def fnPacksWrong : ChangeSpec := { name := "fnPacks", fn := fun _ => fun
  | [d] => { results := [.lit (.bool false)], args := [d] }
  | _ => none }
def FnPacksWrongFalsely : Prop := fnPacksRow.holds Try.pinned (OpenSpec.ofChange fnPacksWrong)

/-- 'laws.FnTaxes': WHATEVER THE INPUT: true; the input reads as it did. -/
def fnTaxesSpec : ChangeSpec := { name := "fnTaxes", fn := fun _ => fun
  | [d] => { results := [.lit (.bool true)], args := [d] }
  | _ => none }
def fnTaxesRow : OpenClaim := { program := "ytaledfdhiimhdaa", sum := "19392a2d9e6358b30aa9e7af2e6467324648fff1b8f698b7d118b73fb4d45650", func := "loop.example/g00067/laws.FnTaxes", spec := "fnTaxes", unfollowed := true, recurses := true, plainKeys := false, apart := false }
def FnTaxesSaid : Prop := fnTaxesRow.holds Try.pinned (OpenSpec.ofChange fnTaxesSpec)

/-- ITS FALSE NEIGHBOUR: 'it returns false'. Refute it at one input. -/
def fnTaxesWrong : ChangeSpec := { name := "fnTaxes", fn := fun _ => fun
  | [d] => { results := [.lit (.bool false)], args := [d] }
  | _ => none }
def FnTaxesWrongFalsely : Prop := fnTaxesRow.holds Try.pinned (OpenSpec.ofChange fnTaxesWrong)

/- THE SECOND FORM. 'bulk': how many values and letters a reading holds, each counted each time it is reached (what is shared counts as often as it is met; a slice's spare places count too). A statement '..UptoSaid' is the law's where the arguments, and the package variables that the reading takes, are together of bulk at most 1048576: NARROWER than '..Said'. Prove '..Said' where nothing that the law and all that it calls make is longer than what came in: it says more and counts as full. Else prove '..UptoSaid'. A law counts once. -/
mutual
def uptoBulk {H : Type} : DataW H → Nat
  | .lit (.string bytes) => bytes.length + 1
  | .lit _ => 1
  | .nil => 1
  | .ptr d => uptoBulk d + 1
  | .slice elems spare => uptoBulkAll elems + uptoBulkAll spare + 1
  | .agg parts => uptoBulkAll parts + 1
  | .iface _ d => uptoBulk d + 1
  | .map entries => uptoBulkEntries entries + 1
  | .held _ => 1
def uptoBulkAll {H : Type} : List (DataW H) → Nat
  | [] => 0
  | d :: r => uptoBulk d + uptoBulkAll r
def uptoBulkEntries {H : Type} : List (Lit × DataW H) → Nat
  | [] => 0
  | x :: r => uptoBulkEntry x + uptoBulkEntries r
def uptoBulkEntry {H : Type} : Lit × DataW H → Nat
  | (.string bytes, d) => bytes.length + uptoBulk d + 1
  | (_, d) => uptoBulk d + 1
 end
def uptoSmall : (H : Type) → List (DataW H) → Bool := fun _ ds => decide (uptoBulkAll ds ≤ 1048576)
def OpenSpec.upto (s : _root_.Go.ChangeSpec) : _root_.Go.OpenSpec := { _root_.Go.OpenSpec.ofChange s with cond := some uptoSmall }

/-- 'laws.FnShare', WHERE WHAT IT READS IS OF BULK AT MOST 1048576: true; the input reads as it did. -/
def fnShareUptoRow : OpenClaim := { program := "ytaledfdhiimhdaa", sum := "19392a2d9e6358b30aa9e7af2e6467324648fff1b8f698b7d118b73fb4d45650", func := "loop.example/g00067/laws.FnShare", spec := "fnShare", plainKeys := false, apart := false, narrowed := true }
def FnShareUptoSaid : Prop := fnShareUptoRow.holds Try.pinned (OpenSpec.upto fnShareSpec)

/-- 'laws.FnCash', WHERE WHAT IT READS IS OF BULK AT MOST 1048576: true; the input reads as it did. -/
def fnCashUptoRow : OpenClaim := { program := "ytaledfdhiimhdaa", sum := "19392a2d9e6358b30aa9e7af2e6467324648fff1b8f698b7d118b73fb4d45650", func := "loop.example/g00067/laws.FnCash", spec := "fnCash", unfollowed := true, recurses := true, plainKeys := false, apart := false, narrowed := true }
def FnCashUptoSaid : Prop := fnCashUptoRow.holds Try.pinned (OpenSpec.upto fnCashSpec)

/-- 'laws.FnPacks', WHERE WHAT IT READS IS OF BULK AT MOST 1048576: true; the input reads as it did. -/
def fnPacksUptoRow : OpenClaim := { program := "ytaledfdhiimhdaa", sum := "19392a2d9e6358b30aa9e7af2e6467324648fff1b8f698b7d118b73fb4d45650", func := "loop.example/g00067/laws.FnPacks", spec := "fnPacks", plainKeys := false, apart := false, narrowed := true }
def FnPacksUptoSaid : Prop := fnPacksUptoRow.holds Try.pinned (OpenSpec.upto fnPacksSpec)

/-- 'laws.FnTaxes', WHERE WHAT IT READS IS OF BULK AT MOST 1048576: true; the input reads as it did. -/
def fnTaxesUptoRow : OpenClaim := { program := "ytaledfdhiimhdaa", sum := "19392a2d9e6358b30aa9e7af2e6467324648fff1b8f698b7d118b73fb4d45650", func := "loop.example/g00067/laws.FnTaxes", spec := "fnTaxes", unfollowed := true, recurses := true, plainKeys := false, apart := false, narrowed := true }
def FnTaxesUptoSaid : Prop := fnTaxesUptoRow.holds Try.pinned (OpenSpec.upto fnTaxesSpec)

end Rows
end Go.Proofs.Ytaledfdhiimhdaa
