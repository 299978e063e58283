
/-
  Contracts of putting a number into a rising list.
-/
import Derived.Test.YtolgjokghecceaaSearch
import Derived.Test.YtolgjokghecceaaIfExp
namespace Go.Proofs.Ytolgjokghecceaa
open Go.RowKit
end Go.Proofs.Ytolgjokghecceaa
