
/-
  The contract of the library's binary search in a rising list.
-/
import Derived.Test.YtbjblkfibinenabDoorInsP
import Derived.Test.YtbjblkfibinenabDoorOrder
namespace Go.Proofs.YtbjblkfibinenabDoor
open Go.RowKit
end Go.Proofs.YtbjblkfibinenabDoor
