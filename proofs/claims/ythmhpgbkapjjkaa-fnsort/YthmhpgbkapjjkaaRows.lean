/-
  No cell of these rows narrows 'for every input' (looked for: loops, veiled, ifaces, maps, wideKeys, modest, calm, conditions, laid).
  DERIVED. THE GIVEN ROWS OF THIS SEAT. 4 by the template 'for every input the law returns true; each argument reads behind the call as it read before'; 0 by the template 'total and deterministic' (their statements: YthmhpgbkapjjkaaTotals.lean).
  GIVEN WITH THE SEED: the statements are not yours to turn. If you find one false, say at which input.
  Laid BY PROGRAM, IN A SANDBOX (cutbox-rows.mjs): the forced cells as the released guide's own fill.sh prints them over the translation 1b58b83240d6ed5c… (all of the seat's roots in one cut). By AI agents, Wed Nov 11 2026. No macro, syntax, notation, axiom, sorry.
-/
import Derived.Test.YthmhpgbkapjjkaaChecked
import GoSem.Claim
import GoSem.ClaimJoined
import GoSem.ClaimMapViews
import Derived.JoinedTies
import Derived.KernelRfl
namespace Go.Proofs.Ythmhpgbkapjjkaa
/- THE CELL 'sum', in the pinned program and in every row, IS THE sha256 OF THE DUMP (.gsa) THAT YthmhpgbkapjjkaaProg.lean LOADS. Nothing in Lean hashes anything: it is a label: what it is worth is what the hold of that sum in a sandbox is worth. -/
noncomputable def Try.pinned : Pinned := { name := "ythmhpgbkapjjkaa", sum := "1b58b83240d6ed5cda47ce7d6793625dbecf92e2b435f8d793dd296e42e47e4a", checked := Try.checked }
namespace Rows
def none {H : Type} : Left H := { results := [], args := [] }

/-- 'laws.FnPath': WHATEVER THE INPUT: true; the input reads as it did. -/
def fnPathSpec : ChangeSpec := { name := "fnPath", fn := fun _ => fun
  | [d] => { results := [.lit (.bool true)], args := [d] }
  | _ => none }
def fnPathRow : OpenClaim := { program := "ythmhpgbkapjjkaa", sum := "1b58b83240d6ed5cda47ce7d6793625dbecf92e2b435f8d793dd296e42e47e4a", func := "loop.example/g00067/laws.FnPath", spec := "fnPath", unfollowed := true, recurses := true, apart := false }
def FnPathSaid : Prop := fnPathRow.holds Try.pinned (OpenSpec.ofChange fnPathSpec)

/-- ITS FALSE NEIGHBOUR: 'it returns false'. Refute it at one input. -/
def fnPathWrong : ChangeSpec := { name := "fnPath", fn := fun _ => fun
  | [d] => { results := [.lit (.bool false)], args := [d] }
  | _ => none }
def FnPathWrongFalsely : Prop := fnPathRow.holds Try.pinned (OpenSpec.ofChange fnPathWrong)

/-- 'laws.FnSort': WHATEVER THE INPUT: true; the input reads as it did. -/
def fnSortSpec : ChangeSpec := { name := "fnSort", fn := fun _ => fun
  | [d] => { results := [.lit (.bool true)], args := [d] }
  | _ => none }
def fnSortRow : OpenClaim := { program := "ythmhpgbkapjjkaa", sum := "1b58b83240d6ed5cda47ce7d6793625dbecf92e2b435f8d793dd296e42e47e4a", func := "loop.example/g00067/laws.FnSort", spec := "fnSort", unfollowed := true, recurses := true, apart := false }
def FnSortSaid : Prop := fnSortRow.holds Try.pinned (OpenSpec.ofChange fnSortSpec)

/-- ITS FALSE NEIGHBOUR: 'it returns false'. Refute it at one input. -/
def fnSortWrong : ChangeSpec := { name := "fnSort", fn := fun _ => fun
  | [d] => { results := [.lit (.bool false)], args := [d] }
  | _ => none }
def FnSortWrongFalsely : Prop := fnSortRow.holds Try.pinned (OpenSpec.ofChange fnSortWrong)

/-- 'laws.FnExactBestPath': WHATEVER THE INPUT: true; the input reads as it did. -/
def fnExactBestPathSpec : ChangeSpec := { name := "fnExactBestPath", fn := fun _ => fun
  | [d1, d2] => { results := [.lit (.bool true)], args := [d1, d2] }
  | _ => none }
def fnExactBestPathRow : OpenClaim := { program := "ythmhpgbkapjjkaa", sum := "1b58b83240d6ed5cda47ce7d6793625dbecf92e2b435f8d793dd296e42e47e4a", func := "loop.example/g00067/laws.FnExactBestPath", spec := "fnExactBestPath", unfollowed := true, recurses := true, apart := false }
def FnExactBestPathSaid : Prop := fnExactBestPathRow.holds Try.pinned (OpenSpec.ofChange fnExactBestPathSpec)

/-- ITS FALSE NEIGHBOUR: 'it returns false'. Refute it at one input. -/
def fnExactBestPathWrong : ChangeSpec := { name := "fnExactBestPath", fn := fun _ => fun
  | [d1, d2] => { results := [.lit (.bool false)], args := [d1, d2] }
  | _ => none }
def FnExactBestPathWrongFalsely : Prop := fnExactBestPathRow.holds Try.pinned (OpenSpec.ofChange fnExactBestPathWrong)

/-- 'laws.FnExactSortRun': WHATEVER THE INPUT: true; the input reads as it did. -/
def fnExactSortRunSpec : ChangeSpec := { name := "fnExactSortRun", fn := fun _ => fun
  | [d1, d2] => { results := [.lit (.bool true)], args := [d1, d2] }
  | _ => none }
def fnExactSortRunRow : OpenClaim := { program := "ythmhpgbkapjjkaa", sum := "1b58b83240d6ed5cda47ce7d6793625dbecf92e2b435f8d793dd296e42e47e4a", func := "loop.example/g00067/laws.FnExactSortRun", spec := "fnExactSortRun", unfollowed := true, recurses := true, apart := false }
def FnExactSortRunSaid : Prop := fnExactSortRunRow.holds Try.pinned (OpenSpec.ofChange fnExactSortRunSpec)

/-- ITS FALSE NEIGHBOUR: 'it returns false'. Refute it at one input. -/
def fnExactSortRunWrong : ChangeSpec := { name := "fnExactSortRun", fn := fun _ => fun
  | [d1, d2] => { results := [.lit (.bool false)], args := [d1, d2] }
  | _ => none }
def FnExactSortRunWrongFalsely : Prop := fnExactSortRunRow.holds Try.pinned (OpenSpec.ofChange fnExactSortRunWrong)

/- THE SECOND FORM. 'bulk': how many values and letters a reading holds, each counted each time it is reached (what is shared counts as often as it is met; a slice's spare places count too). A statement '..UptoSaid' is the law's where the arguments, and the package variables that the reading takes, are together of bulk at most 1048576: NARROWER than '..Said'. Prove '..Said' where nothing that the law and all that it calls make is longer than what came in: it says more and counts as full. Else prove '..UptoSaid'. A law counts once. -/
mutual
def uptoBulk {H : Type} : DataW H → Nat
  | .lit (.string bytes) => bytes.length + 1
  | .lit _ => 1
  | .nil => 1
  | .ptr d => uptoBulk d + 1
  | .slice elems spare => uptoBulkAll elems + uptoBulkAll spare + 1
  | .agg parts => uptoBulkAll parts + 1
  | .iface _ d => uptoBulk d + 1
  | .map entries => uptoBulkEntries entries + 1
  | .held _ => 1
def uptoBulkAll {H : Type} : List (DataW H) → Nat
  | [] => 0
  | d :: r => uptoBulk d + uptoBulkAll r
def uptoBulkEntries {H : Type} : List (Lit × DataW H) → Nat
  | [] => 0
  | x :: r => uptoBulkEntry x + uptoBulkEntries r
def uptoBulkEntry {H : Type} : Lit × DataW H → Nat
  | (.string bytes, d) => bytes.length + uptoBulk d + 1
  | (_, d) => uptoBulk d + 1
 end
def uptoSmall : (H : Type) → List (DataW H) → Bool := fun _ ds => decide (uptoBulkAll ds ≤ 1048576)
def OpenSpec.upto (s : _root_.Go.ChangeSpec) : _root_.Go.OpenSpec := { _root_.Go.OpenSpec.ofChange s with cond := some uptoSmall }

/-- 'laws.FnPath', WHERE WHAT IT READS IS OF BULK AT MOST 1048576: true; the input reads as it did. -/
def fnPathUptoRow : OpenClaim := { program := "ythmhpgbkapjjkaa", sum := "1b58b83240d6ed5cda47ce7d6793625dbecf92e2b435f8d793dd296e42e47e4a", func := "loop.example/g00067/laws.FnPath", spec := "fnPath", unfollowed := true, recurses := true, apart := false, narrowed := true }
def FnPathUptoSaid : Prop := fnPathUptoRow.holds Try.pinned (OpenSpec.upto fnPathSpec)

/-- 'laws.FnSort', WHERE WHAT IT READS IS OF BULK AT MOST 1048576: true; the input reads as it did. -/
def fnSortUptoRow : OpenClaim := { program := "ythmhpgbkapjjkaa", sum := "1b58b83240d6ed5cda47ce7d6793625dbecf92e2b435f8d793dd296e42e47e4a", func := "loop.example/g00067/laws.FnSort", spec := "fnSort", unfollowed := true, recurses := true, apart := false, narrowed := true }
def FnSortUptoSaid : Prop := fnSortUptoRow.holds Try.pinned (OpenSpec.upto fnSortSpec)

/-- 'laws.FnExactBestPath', WHERE WHAT IT READS IS OF BULK AT MOST 1048576: true; the input reads as it did. -/
def fnExactBestPathUptoRow : OpenClaim := { program := "ythmhpgbkapjjkaa", sum := "1b58b83240d6ed5cda47ce7d6793625dbecf92e2b435f8d793dd296e42e47e4a", func := "loop.example/g00067/laws.FnExactBestPath", spec := "fnExactBestPath", unfollowed := true, recurses := true, apart := false, narrowed := true }
def FnExactBestPathUptoSaid : Prop := fnExactBestPathUptoRow.holds Try.pinned (OpenSpec.upto fnExactBestPathSpec)

/-- 'laws.FnExactSortRun', WHERE WHAT IT READS IS OF BULK AT MOST 1048576: true; the input reads as it did. -/
def fnExactSortRunUptoRow : OpenClaim := { program := "ythmhpgbkapjjkaa", sum := "1b58b83240d6ed5cda47ce7d6793625dbecf92e2b435f8d793dd296e42e47e4a", func := "loop.example/g00067/laws.FnExactSortRun", spec := "fnExactSortRun", unfollowed := true, recurses := true, apart := false, narrowed := true }
def FnExactSortRunUptoSaid : Prop := fnExactSortRunUptoRow.holds Try.pinned (OpenSpec.upto fnExactSortRunSpec)

end Rows
end Go.Proofs.Ythmhpgbkapjjkaa
