
/-
  Contracts of putting a number into a rising list.
-/
import Derived.Test.YtbjblkfibinenacGreatSearch
import Derived.Test.YtbjblkfibinenacGreatIfExp
namespace Go.Proofs.YtbjblkfibinenacGreat
open Go.RowKit
end Go.Proofs.YtbjblkfibinenacGreat
