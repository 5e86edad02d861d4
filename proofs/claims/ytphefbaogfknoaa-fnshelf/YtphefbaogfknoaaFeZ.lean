/-
  Both contracts of BestShelf.
-/
import Derived.Test.YtphefbaogfknoaaFeC
import Derived.Test.YtphefbaogfknoaaFeD
namespace Go.Proofs.Ytphefbaogfknoaa
end Go.Proofs.Ytphefbaogfknoaa
