/-
  The laws' own sameInts.
-/
import Derived.Test.YthmhpgbkapjjkaaLists0
namespace Go.Proofs.Ythmhpgbkapjjkaa
open Go.ChangeShapes Go.WideShapes Go.ChangeAt Go.RowKit Go.Deep
set_option linter.unusedVariables false

end Go.Proofs.Ythmhpgbkapjjkaa
