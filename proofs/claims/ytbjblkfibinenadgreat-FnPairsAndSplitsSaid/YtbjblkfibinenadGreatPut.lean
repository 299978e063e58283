
/-
  Contracts of putting a number into a rising list.
-/
import Derived.Test.YtbjblkfibinenadGreatSearch
import Derived.Test.YtbjblkfibinenadGreatIfExp
namespace Go.Proofs.YtbjblkfibinenadGreat
open Go.RowKit
end Go.Proofs.YtbjblkfibinenadGreat
