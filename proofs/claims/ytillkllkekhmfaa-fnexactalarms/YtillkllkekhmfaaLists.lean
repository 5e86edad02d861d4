/-
  Contracts of the laws' own helpers on lists of numbers (toIntS, eqIntS, markIntS, heldIntS).
-/
import Derived.Test.YtillkllkekhmfaaLists0
namespace Go.Proofs.Ytillkllkekhmfaa
open Go.ChangeShapes Go.WideShapes Go.ChangeAt Go.RowKit
set_option linter.unusedVariables false

end Go.Proofs.Ytillkllkekhmfaa
