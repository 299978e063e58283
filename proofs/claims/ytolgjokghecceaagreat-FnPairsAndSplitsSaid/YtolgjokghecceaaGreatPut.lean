
/-
  Contracts of putting a number into a rising list.
-/
import Derived.Test.YtolgjokghecceaaGreatSearch
import Derived.Test.YtolgjokghecceaaGreatIfExp
namespace Go.Proofs.YtolgjokghecceaaGreat
open Go.RowKit
end Go.Proofs.YtolgjokghecceaaGreat
