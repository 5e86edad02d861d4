/-
  Both BestMarks.
-/
import Derived.Test.YtlcnhkhkhlpghaaMrF
import Derived.Test.YtlcnhkhkhlpghaaMrH
