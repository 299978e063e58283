
/-
  Contracts of putting a number into a rising list.
-/
import Derived.Test.YtbjblkfibinenadSearch
import Derived.Test.YtbjblkfibinenadIfExp
namespace Go.Proofs.Ytbjblkfibinenad
open Go.RowKit
end Go.Proofs.Ytbjblkfibinenad
