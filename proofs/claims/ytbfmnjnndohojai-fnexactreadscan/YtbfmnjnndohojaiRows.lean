/-
  No cell of these rows narrows 'for every input' (looked for: loops, veiled, ifaces, maps, wideKeys, modest, calm, conditions, laid).
  DERIVED. THE GIVEN ROWS OF THIS SEAT. 5 by the template 'for every input the law returns true; each argument reads behind the call as it read before'; 0 by the template 'total and deterministic' (their statements: YtbfmnjnndohojaiTotals.lean).
  GIVEN WITH THE SEED: the statements are not yours to turn. If you find one false, say at which input.
  Laid BY PROGRAM, IN A SANDBOX (cutbox-rows.mjs): the forced cells as the released guide's own fill.sh prints them over the translation 6ba393cca4593b0c… (all of the seat's roots in one cut). By AI agents, Wed Nov 11 2026. No macro, syntax, notation, axiom, sorry.
-/
import Derived.Test.YtbfmnjnndohojaiChecked
import GoSem.Claim
import GoSem.ClaimJoined
import GoSem.ClaimMapViews
import Derived.JoinedTies
import Derived.KernelRfl
namespace Go.Proofs.Ytbfmnjnndohojai
/- THE CELL 'sum', in the pinned program and in every row, IS THE sha256 OF THE DUMP (.gsa) THAT YtbfmnjnndohojaiProg.lean LOADS. Nothing in Lean hashes anything: it is a label: what it is worth is what the hold of that sum in a sandbox is worth. -/
noncomputable def Try.pinned : Pinned := { name := "ytbfmnjnndohojai", sum := "6ba393cca4593b0ccc0b4a75d49c4aa0975c24e5d4efe035dadb2d758858cd1f", checked := Try.checked }
namespace Rows
def none {H : Type} : Left H := { results := [], args := [] }

/-- 'laws.FnExactCash': WHATEVER THE INPUT: true; the input reads as it did. -/
def fnExactCashSpec : ChangeSpec := { name := "fnExactCash", fn := fun _ => fun
  | [d1, d2] => { results := [.lit (.bool true)], args := [d1, d2] }
  | _ => none }
def fnExactCashRow : OpenClaim := { program := "ytbfmnjnndohojai", sum := "6ba393cca4593b0ccc0b4a75d49c4aa0975c24e5d4efe035dadb2d758858cd1f", func := "loop.example/g00067/laws.FnExactCash", spec := "fnExactCash", unfollowed := true, recurses := true, apart := false }
def FnExactCashSaid : Prop := fnExactCashRow.holds Try.pinned (OpenSpec.ofChange fnExactCashSpec)

/-- ITS FALSE NEIGHBOUR: 'it returns false'. Refute it at one input. -/
def fnExactCashWrong : ChangeSpec := { name := "fnExactCash", fn := fun _ => fun
  | [d1, d2] => { results := [.lit (.bool false)], args := [d1, d2] }
  | _ => none }
def FnExactCashWrongFalsely : Prop := fnExactCashRow.holds Try.pinned (OpenSpec.ofChange fnExactCashWrong)

/-- 'laws.FnExactExchange': WHATEVER THE INPUT: true; the input reads as it did. -/
def fnExactExchangeSpec : ChangeSpec := { name := "fnExactExchange", fn := fun _ => fun
  | [d1, d2, d3, d4] => { results := [.lit (.bool true)], args := [d1, d2, d3, d4] }
  | _ => none }
def fnExactExchangeRow : OpenClaim := { program := "ytbfmnjnndohojai", sum := "6ba393cca4593b0ccc0b4a75d49c4aa0975c24e5d4efe035dadb2d758858cd1f", func := "loop.example/g00067/laws.FnExactExchange", spec := "fnExactExchange", unfollowed := true, recurses := true, apart := false }
def FnExactExchangeSaid : Prop := fnExactExchangeRow.holds Try.pinned (OpenSpec.ofChange fnExactExchangeSpec)

/-- ITS FALSE NEIGHBOUR: 'it returns false'. Refute it at one input. -/
def fnExactExchangeWrong : ChangeSpec := { name := "fnExactExchange", fn := fun _ => fun
  | [d1, d2, d3, d4] => { results := [.lit (.bool false)], args := [d1, d2, d3, d4] }
  | _ => none }
def FnExactExchangeWrongFalsely : Prop := fnExactExchangeRow.holds Try.pinned (OpenSpec.ofChange fnExactExchangeWrong)

/-- 'laws.FnExactReadMoney': WHATEVER THE INPUT: true; the input reads as it did. -/
def fnExactReadMoneySpec : ChangeSpec := { name := "fnExactReadMoney", fn := fun _ => fun
  | [d] => { results := [.lit (.bool true)], args := [d] }
  | _ => none }
def fnExactReadMoneyRow : OpenClaim := { program := "ytbfmnjnndohojai", sum := "6ba393cca4593b0ccc0b4a75d49c4aa0975c24e5d4efe035dadb2d758858cd1f", func := "loop.example/g00067/laws.FnExactReadMoney", spec := "fnExactReadMoney", inPlace := ["internal/bytealg.IndexByteString", "internal/bytealg.IndexString"], named := ["internal/bytealg.MaxLen"], apart := false }
def FnExactReadMoneySaid : Prop := fnExactReadMoneyRow.holds Try.pinned (OpenSpec.ofChange fnExactReadMoneySpec)

/-- ITS FALSE NEIGHBOUR: 'it returns false'. Refute it at one input. -/
def fnExactReadMoneyWrong : ChangeSpec := { name := "fnExactReadMoney", fn := fun _ => fun
  | [d] => { results := [.lit (.bool false)], args := [d] }
  | _ => none }
def FnExactReadMoneyWrongFalsely : Prop := fnExactReadMoneyRow.holds Try.pinned (OpenSpec.ofChange fnExactReadMoneyWrong)

/-- 'laws.FnExactCheckDigit': WHATEVER THE INPUT: true; the input reads as it did. -/
def fnExactCheckDigitSpec : ChangeSpec := { name := "fnExactCheckDigit", fn := fun _ => fun
  | [d] => { results := [.lit (.bool true)], args := [d] }
  | _ => none }
def fnExactCheckDigitRow : OpenClaim := { program := "ytbfmnjnndohojai", sum := "6ba393cca4593b0ccc0b4a75d49c4aa0975c24e5d4efe035dadb2d758858cd1f", func := "loop.example/g00067/laws.FnExactCheckDigit", spec := "fnExactCheckDigit", apart := false }
def FnExactCheckDigitSaid : Prop := fnExactCheckDigitRow.holds Try.pinned (OpenSpec.ofChange fnExactCheckDigitSpec)

/-- ITS FALSE NEIGHBOUR: 'it returns false'. Refute it at one input. -/
def fnExactCheckDigitWrong : ChangeSpec := { name := "fnExactCheckDigit", fn := fun _ => fun
  | [d] => { results := [.lit (.bool false)], args := [d] }
  | _ => none }
def FnExactCheckDigitWrongFalsely : Prop := fnExactCheckDigitRow.holds Try.pinned (OpenSpec.ofChange fnExactCheckDigitWrong)

/-- 'laws.FnExactReadScan': WHATEVER THE INPUT: true; the input reads as it did. -/
def fnExactReadScanSpec : ChangeSpec := { name := "fnExactReadScan", fn := fun _ => fun
  | [d] => { results := [.lit (.bool true)], args := [d] }
  | _ => none }
def fnExactReadScanRow : OpenClaim := { program := "ytbfmnjnndohojai", sum := "6ba393cca4593b0ccc0b4a75d49c4aa0975c24e5d4efe035dadb2d758858cd1f", func := "loop.example/g00067/laws.FnExactReadScan", spec := "fnExactReadScan", inPlace := ["internal/abi.NoEscape", "internal/bytealg.MakeNoZero"], apart := false }
def FnExactReadScanSaid : Prop := fnExactReadScanRow.holds Try.pinned (OpenSpec.ofChange fnExactReadScanSpec)

/-- ITS FALSE NEIGHBOUR: 'it returns false'. Refute it at one input. -/
def fnExactReadScanWrong : ChangeSpec := { name := "fnExactReadScan", fn := fun _ => fun
  | [d] => { results := [.lit (.bool false)], args := [d] }
  | _ => none }
def FnExactReadScanWrongFalsely : Prop := fnExactReadScanRow.holds Try.pinned (OpenSpec.ofChange fnExactReadScanWrong)

/- THE SECOND FORM. 'bulk': how many values and letters a reading holds, each counted each time it is reached (what is shared counts as often as it is met; a slice's spare places count too). A statement '..UptoSaid' is the law's where the arguments, and the package variables that the reading takes, are together of bulk at most 1048576: NARROWER than '..Said'. Prove '..Said' where nothing that the law and all that it calls make is longer than what came in: it says more and counts as full. Else prove '..UptoSaid'. A law counts once. -/
mutual
def uptoBulk {H : Type} : DataW H → Nat
  | .lit (.string bytes) => bytes.length + 1
  | .lit _ => 1
  | .nil => 1
  | .ptr d => uptoBulk d + 1
  | .slice elems spare => uptoBulkAll elems + uptoBulkAll spare + 1
  | .agg parts => uptoBulkAll parts + 1
  | .iface _ d => uptoBulk d + 1
  | .map entries => uptoBulkEntries entries + 1
  | .held _ => 1
def uptoBulkAll {H : Type} : List (DataW H) → Nat
  | [] => 0
  | d :: r => uptoBulk d + uptoBulkAll r
def uptoBulkEntries {H : Type} : List (Lit × DataW H) → Nat
  | [] => 0
  | x :: r => uptoBulkEntry x + uptoBulkEntries r
def uptoBulkEntry {H : Type} : Lit × DataW H → Nat
  | (.string bytes, d) => bytes.length + uptoBulk d + 1
  | (_, d) => uptoBulk d + 1
 end
def uptoSmall : (H : Type) → List (DataW H) → Bool := fun _ ds => decide (uptoBulkAll ds ≤ 1048576)
def OpenSpec.upto (s : _root_.Go.ChangeSpec) : _root_.Go.OpenSpec := { _root_.Go.OpenSpec.ofChange s with cond := some uptoSmall }

/-- 'laws.FnExactCash', WHERE WHAT IT READS IS OF BULK AT MOST 1048576: true; the input reads as it did. -/
def fnExactCashUptoRow : OpenClaim := { program := "ytbfmnjnndohojai", sum := "6ba393cca4593b0ccc0b4a75d49c4aa0975c24e5d4efe035dadb2d758858cd1f", func := "loop.example/g00067/laws.FnExactCash", spec := "fnExactCash", unfollowed := true, recurses := true, apart := false, narrowed := true }
def FnExactCashUptoSaid : Prop := fnExactCashUptoRow.holds Try.pinned (OpenSpec.upto fnExactCashSpec)

/-- 'laws.FnExactExchange', WHERE WHAT IT READS IS OF BULK AT MOST 1048576: true; the input reads as it did. -/
def fnExactExchangeUptoRow : OpenClaim := { program := "ytbfmnjnndohojai", sum := "6ba393cca4593b0ccc0b4a75d49c4aa0975c24e5d4efe035dadb2d758858cd1f", func := "loop.example/g00067/laws.FnExactExchange", spec := "fnExactExchange", unfollowed := true, recurses := true, apart := false, narrowed := true }
def FnExactExchangeUptoSaid : Prop := fnExactExchangeUptoRow.holds Try.pinned (OpenSpec.upto fnExactExchangeSpec)

/-- 'laws.FnExactReadMoney', WHERE WHAT IT READS IS OF BULK AT MOST 1048576: true; the input reads as it did. -/
def fnExactReadMoneyUptoRow : OpenClaim := { program := "ytbfmnjnndohojai", sum := "6ba393cca4593b0ccc0b4a75d49c4aa0975c24e5d4efe035dadb2d758858cd1f", func := "loop.example/g00067/laws.FnExactReadMoney", spec := "fnExactReadMoney", inPlace := ["internal/bytealg.IndexByteString", "internal/bytealg.IndexString"], named := ["internal/bytealg.MaxLen"], apart := false, narrowed := true }
def FnExactReadMoneyUptoSaid : Prop := fnExactReadMoneyUptoRow.holds Try.pinned (OpenSpec.upto fnExactReadMoneySpec)

/-- 'laws.FnExactCheckDigit', WHERE WHAT IT READS IS OF BULK AT MOST 1048576: true; the input reads as it did. -/
def fnExactCheckDigitUptoRow : OpenClaim := { program := "ytbfmnjnndohojai", sum := "6ba393cca4593b0ccc0b4a75d49c4aa0975c24e5d4efe035dadb2d758858cd1f", func := "loop.example/g00067/laws.FnExactCheckDigit", spec := "fnExactCheckDigit", apart := false, narrowed := true }
def FnExactCheckDigitUptoSaid : Prop := fnExactCheckDigitUptoRow.holds Try.pinned (OpenSpec.upto fnExactCheckDigitSpec)

/-- 'laws.FnExactReadScan', WHERE WHAT IT READS IS OF BULK AT MOST 1048576: true; the input reads as it did. -/
def fnExactReadScanUptoRow : OpenClaim := { program := "ytbfmnjnndohojai", sum := "6ba393cca4593b0ccc0b4a75d49c4aa0975c24e5d4efe035dadb2d758858cd1f", func := "loop.example/g00067/laws.FnExactReadScan", spec := "fnExactReadScan", inPlace := ["internal/abi.NoEscape", "internal/bytealg.MakeNoZero"], apart := false, narrowed := true }
def FnExactReadScanUptoSaid : Prop := fnExactReadScanUptoRow.holds Try.pinned (OpenSpec.upto fnExactReadScanSpec)

end Rows
end Go.Proofs.Ytbfmnjnndohojai
