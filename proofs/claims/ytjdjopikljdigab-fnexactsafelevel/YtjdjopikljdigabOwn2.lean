/-
  A slice of numbers that owns its memory, and the laws' marks on it (no program's function but the laws' own helpers).
-/
import Derived.Test.YtjdjopikljdigabLists
namespace Go.Proofs.Ytjdjopikljdigab
open Go.ChangeShapes Go.WideShapes Go.ChangeAt Go.RowKit
set_option linter.unusedVariables false

end Go.Proofs.Ytjdjopikljdigab
