/-
  Contracts of traceOK, traceFault, of the library's functions at a trace; of the specification's l22Trace.
-/
import Derived.Test.YtillkllkekhmfabFlB
namespace Go.Proofs.Ytillkllkekhmfab
open Go.ChangeShapes Go.WideShapes Go.ChangeAt Go.RowKit Go.Joins Go.Deep
set_option linter.unusedVariables false

end Go.Proofs.Ytillkllkekhmfab
