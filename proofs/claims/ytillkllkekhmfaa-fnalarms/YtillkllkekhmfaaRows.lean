/-
  No cell of these rows narrows 'for every input' (looked for: loops, veiled, ifaces, maps, wideKeys, modest, calm, conditions, laid).
  DERIVED. THE GIVEN ROWS OF THIS SEAT. 6 by the template 'for every input the law returns true; each argument reads behind the call as it read before'; 0 by the template 'total and deterministic' (their statements: YtillkllkekhmfaaTotals.lean).
  GIVEN WITH THE SEED: the statements are not yours to turn. If you find one false, say at which input.
  Laid BY PROGRAM, IN A SANDBOX (cutbox-rows.mjs): the forced cells as the released guide's own fill.sh prints them over the translation 1ca37d3e54420734… (all of the seat's roots in one cut). By AI agents, Wed Nov 11 2026. No macro, syntax, notation, axiom, sorry.
-/
import Derived.Test.YtillkllkekhmfaaChecked
import GoSem.Claim
import GoSem.ClaimJoined
import GoSem.ClaimMapViews
import Derived.JoinedTies
import Derived.KernelRfl
namespace Go.Proofs.Ytillkllkekhmfaa
/- THE CELL 'sum', in the pinned program and in every row, IS THE sha256 OF THE DUMP (.gsa) THAT YtillkllkekhmfaaProg.lean LOADS. Nothing in Lean hashes anything: it is a label: what it is worth is what the hold of that sum in a sandbox is worth. -/
noncomputable def Try.pinned : Pinned := { name := "ytillkllkekhmfaa", sum := "1ca37d3e54420734194bfb2313c72fae5e54df814f539fa5c59060b5ee904ab0", checked := Try.checked }
namespace Rows
def none {H : Type} : Left H := { results := [], args := [] }

/-- 'laws.FnWatch': WHATEVER THE INPUT: true; the input reads as it did. -/
def fnWatchSpec : ChangeSpec := { name := "fnWatch", fn := fun _ => fun
  | [d] => { results := [.lit (.bool true)], args := [d] }
  | _ => none }
def fnWatchRow : OpenClaim := { program := "ytillkllkekhmfaa", sum := "1ca37d3e54420734194bfb2313c72fae5e54df814f539fa5c59060b5ee904ab0", func := "loop.example/g00067/laws.FnWatch", spec := "fnWatch", unfollowed := true, recurses := true, apart := false }
def FnWatchSaid : Prop := fnWatchRow.holds Try.pinned (OpenSpec.ofChange fnWatchSpec)

/-- ITS FALSE NEIGHBOUR: 'it returns false'. Refute it at one input. -/
def fnWatchWrong : ChangeSpec := { name := "fnWatch", fn := fun _ => fun
  | [d] => { results := [.lit (.bool false)], args := [d] }
  | _ => none }
def FnWatchWrongFalsely : Prop := fnWatchRow.holds Try.pinned (OpenSpec.ofChange fnWatchWrong)

/-- 'laws.FnAlarms': WHATEVER THE INPUT: true; the input reads as it did. -/
def fnAlarmsSpec : ChangeSpec := { name := "fnAlarms", fn := fun _ => fun
  | [d] => { results := [.lit (.bool true)], args := [d] }
  | _ => none }
def fnAlarmsRow : OpenClaim := { program := "ytillkllkekhmfaa", sum := "1ca37d3e54420734194bfb2313c72fae5e54df814f539fa5c59060b5ee904ab0", func := "loop.example/g00067/laws.FnAlarms", spec := "fnAlarms", unfollowed := true, recurses := true, apart := false }
def FnAlarmsSaid : Prop := fnAlarmsRow.holds Try.pinned (OpenSpec.ofChange fnAlarmsSpec)

/-- ITS FALSE NEIGHBOUR: 'it returns false'. Refute it at one input. -/
def fnAlarmsWrong : ChangeSpec := { name := "fnAlarms", fn := fun _ => fun
  | [d] => { results := [.lit (.bool false)], args := [d] }
  | _ => none }
def FnAlarmsWrongFalsely : Prop := fnAlarmsRow.holds Try.pinned (OpenSpec.ofChange fnAlarmsWrong)

/-- 'laws.FnPower': WHATEVER THE INPUT: true; the input reads as it did. -/
def fnPowerSpec : ChangeSpec := { name := "fnPower", fn := fun _ => fun
  | [d1, d2] => { results := [.lit (.bool true)], args := [d1, d2] }
  | _ => none }
def fnPowerRow : OpenClaim := { program := "ytillkllkekhmfaa", sum := "1ca37d3e54420734194bfb2313c72fae5e54df814f539fa5c59060b5ee904ab0", func := "loop.example/g00067/laws.FnPower", spec := "fnPower", unfollowed := true, recurses := true, apart := false }
def FnPowerSaid : Prop := fnPowerRow.holds Try.pinned (OpenSpec.ofChange fnPowerSpec)

/-- ITS FALSE NEIGHBOUR: 'it returns false'. Refute it at one input. -/
def fnPowerWrong : ChangeSpec := { name := "fnPower", fn := fun _ => fun
  | [d1, d2] => { results := [.lit (.bool false)], args := [d1, d2] }
  | _ => none }
def FnPowerWrongFalsely : Prop := fnPowerRow.holds Try.pinned (OpenSpec.ofChange fnPowerWrong)

/-- 'laws.FnExactWatchOf': WHATEVER THE INPUT: true; the input reads as it did. -/
def fnExactWatchOfSpec : ChangeSpec := { name := "fnExactWatchOf", fn := fun _ => fun
  | [d] => { results := [.lit (.bool true)], args := [d] }
  | _ => none }
def fnExactWatchOfRow : OpenClaim := { program := "ytillkllkekhmfaa", sum := "1ca37d3e54420734194bfb2313c72fae5e54df814f539fa5c59060b5ee904ab0", func := "loop.example/g00067/laws.FnExactWatchOf", spec := "fnExactWatchOf", unfollowed := true, recurses := true, apart := false }
def FnExactWatchOfSaid : Prop := fnExactWatchOfRow.holds Try.pinned (OpenSpec.ofChange fnExactWatchOfSpec)

/-- ITS FALSE NEIGHBOUR: 'it returns false'. Refute it at one input. -/
def fnExactWatchOfWrong : ChangeSpec := { name := "fnExactWatchOf", fn := fun _ => fun
  | [d] => { results := [.lit (.bool false)], args := [d] }
  | _ => none }
def FnExactWatchOfWrongFalsely : Prop := fnExactWatchOfRow.holds Try.pinned (OpenSpec.ofChange fnExactWatchOfWrong)

/-- 'laws.FnExactAlarms': WHATEVER THE INPUT: true; the input reads as it did. -/
def fnExactAlarmsSpec : ChangeSpec := { name := "fnExactAlarms", fn := fun _ => fun
  | [d1, d2, d3, d4] => { results := [.lit (.bool true)], args := [d1, d2, d3, d4] }
  | _ => none }
def fnExactAlarmsRow : OpenClaim := { program := "ytillkllkekhmfaa", sum := "1ca37d3e54420734194bfb2313c72fae5e54df814f539fa5c59060b5ee904ab0", func := "loop.example/g00067/laws.FnExactAlarms", spec := "fnExactAlarms", unfollowed := true, recurses := true, apart := false }
def FnExactAlarmsSaid : Prop := fnExactAlarmsRow.holds Try.pinned (OpenSpec.ofChange fnExactAlarmsSpec)

/-- ITS FALSE NEIGHBOUR: 'it returns false'. Refute it at one input. -/
def fnExactAlarmsWrong : ChangeSpec := { name := "fnExactAlarms", fn := fun _ => fun
  | [d1, d2, d3, d4] => { results := [.lit (.bool false)], args := [d1, d2, d3, d4] }
  | _ => none }
def FnExactAlarmsWrongFalsely : Prop := fnExactAlarmsRow.holds Try.pinned (OpenSpec.ofChange fnExactAlarmsWrong)

/-- 'laws.FnExactWarmMinutes': WHATEVER THE INPUT: true; the input reads as it did. -/
def fnExactWarmMinutesSpec : ChangeSpec := { name := "fnExactWarmMinutes", fn := fun _ => fun
  | [d1, d2, d3] => { results := [.lit (.bool true)], args := [d1, d2, d3] }
  | _ => none }
def fnExactWarmMinutesRow : OpenClaim := { program := "ytillkllkekhmfaa", sum := "1ca37d3e54420734194bfb2313c72fae5e54df814f539fa5c59060b5ee904ab0", func := "loop.example/g00067/laws.FnExactWarmMinutes", spec := "fnExactWarmMinutes", unfollowed := true, recurses := true, apart := false }
def FnExactWarmMinutesSaid : Prop := fnExactWarmMinutesRow.holds Try.pinned (OpenSpec.ofChange fnExactWarmMinutesSpec)

/-- ITS FALSE NEIGHBOUR: 'it returns false'. Refute it at one input. -/
def fnExactWarmMinutesWrong : ChangeSpec := { name := "fnExactWarmMinutes", fn := fun _ => fun
  | [d1, d2, d3] => { results := [.lit (.bool false)], args := [d1, d2, d3] }
  | _ => none }
def FnExactWarmMinutesWrongFalsely : Prop := fnExactWarmMinutesRow.holds Try.pinned (OpenSpec.ofChange fnExactWarmMinutesWrong)

/- THE SECOND FORM. 'bulk': how many values and letters a reading holds, each counted each time it is reached (what is shared counts as often as it is met; a slice's spare places count too). A statement '..UptoSaid' is the law's where the arguments, and the package variables that the reading takes, are together of bulk at most 1048576: NARROWER than '..Said'. Prove '..Said' where nothing that the law and all that it calls make is longer than what came in: it says more and counts as full. Else prove '..UptoSaid'. A law counts once. -/
mutual
def uptoBulk {H : Type} : DataW H → Nat
  | .lit (.string bytes) => bytes.length + 1
  | .lit _ => 1
  | .nil => 1
  | .ptr d => uptoBulk d + 1
  | .slice elems spare => uptoBulkAll elems + uptoBulkAll spare + 1
  | .agg parts => uptoBulkAll parts + 1
  | .iface _ d => uptoBulk d + 1
  | .map entries => uptoBulkEntries entries + 1
  | .held _ => 1
def uptoBulkAll {H : Type} : List (DataW H) → Nat
  | [] => 0
  | d :: r => uptoBulk d + uptoBulkAll r
def uptoBulkEntries {H : Type} : List (Lit × DataW H) → Nat
  | [] => 0
  | x :: r => uptoBulkEntry x + uptoBulkEntries r
def uptoBulkEntry {H : Type} : Lit × DataW H → Nat
  | (.string bytes, d) => bytes.length + uptoBulk d + 1
  | (_, d) => uptoBulk d + 1
 end
def uptoSmall : (H : Type) → List (DataW H) → Bool := fun _ ds => decide (uptoBulkAll ds ≤ 1048576)
def OpenSpec.upto (s : _root_.Go.ChangeSpec) : _root_.Go.OpenSpec := { _root_.Go.OpenSpec.ofChange s with cond := some uptoSmall }

/-- 'laws.FnWatch', WHERE WHAT IT READS IS OF BULK AT MOST 1048576: true; the input reads as it did. -/
def fnWatchUptoRow : OpenClaim := { program := "ytillkllkekhmfaa", sum := "1ca37d3e54420734194bfb2313c72fae5e54df814f539fa5c59060b5ee904ab0", func := "loop.example/g00067/laws.FnWatch", spec := "fnWatch", unfollowed := true, recurses := true, apart := false, narrowed := true }
def FnWatchUptoSaid : Prop := fnWatchUptoRow.holds Try.pinned (OpenSpec.upto fnWatchSpec)

/-- 'laws.FnAlarms', WHERE WHAT IT READS IS OF BULK AT MOST 1048576: true; the input reads as it did. -/
def fnAlarmsUptoRow : OpenClaim := { program := "ytillkllkekhmfaa", sum := "1ca37d3e54420734194bfb2313c72fae5e54df814f539fa5c59060b5ee904ab0", func := "loop.example/g00067/laws.FnAlarms", spec := "fnAlarms", unfollowed := true, recurses := true, apart := false, narrowed := true }
def FnAlarmsUptoSaid : Prop := fnAlarmsUptoRow.holds Try.pinned (OpenSpec.upto fnAlarmsSpec)

/-- 'laws.FnPower', WHERE WHAT IT READS IS OF BULK AT MOST 1048576: true; the input reads as it did. -/
def fnPowerUptoRow : OpenClaim := { program := "ytillkllkekhmfaa", sum := "1ca37d3e54420734194bfb2313c72fae5e54df814f539fa5c59060b5ee904ab0", func := "loop.example/g00067/laws.FnPower", spec := "fnPower", unfollowed := true, recurses := true, apart := false, narrowed := true }
def FnPowerUptoSaid : Prop := fnPowerUptoRow.holds Try.pinned (OpenSpec.upto fnPowerSpec)

/-- 'laws.FnExactWatchOf', WHERE WHAT IT READS IS OF BULK AT MOST 1048576: true; the input reads as it did. -/
def fnExactWatchOfUptoRow : OpenClaim := { program := "ytillkllkekhmfaa", sum := "1ca37d3e54420734194bfb2313c72fae5e54df814f539fa5c59060b5ee904ab0", func := "loop.example/g00067/laws.FnExactWatchOf", spec := "fnExactWatchOf", unfollowed := true, recurses := true, apart := false, narrowed := true }
def FnExactWatchOfUptoSaid : Prop := fnExactWatchOfUptoRow.holds Try.pinned (OpenSpec.upto fnExactWatchOfSpec)

/-- 'laws.FnExactAlarms', WHERE WHAT IT READS IS OF BULK AT MOST 1048576: true; the input reads as it did. -/
def fnExactAlarmsUptoRow : OpenClaim := { program := "ytillkllkekhmfaa", sum := "1ca37d3e54420734194bfb2313c72fae5e54df814f539fa5c59060b5ee904ab0", func := "loop.example/g00067/laws.FnExactAlarms", spec := "fnExactAlarms", unfollowed := true, recurses := true, apart := false, narrowed := true }
def FnExactAlarmsUptoSaid : Prop := fnExactAlarmsUptoRow.holds Try.pinned (OpenSpec.upto fnExactAlarmsSpec)

/-- 'laws.FnExactWarmMinutes', WHERE WHAT IT READS IS OF BULK AT MOST 1048576: true; the input reads as it did. -/
def fnExactWarmMinutesUptoRow : OpenClaim := { program := "ytillkllkekhmfaa", sum := "1ca37d3e54420734194bfb2313c72fae5e54df814f539fa5c59060b5ee904ab0", func := "loop.example/g00067/laws.FnExactWarmMinutes", spec := "fnExactWarmMinutes", unfollowed := true, recurses := true, apart := false, narrowed := true }
def FnExactWarmMinutesUptoSaid : Prop := fnExactWarmMinutesUptoRow.holds Try.pinned (OpenSpec.upto fnExactWarmMinutesSpec)

end Rows
end Go.Proofs.Ytillkllkekhmfaa
