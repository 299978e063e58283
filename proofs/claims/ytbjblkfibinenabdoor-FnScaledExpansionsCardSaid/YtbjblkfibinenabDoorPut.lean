
/-
  Contracts of putting a number into a rising list.
-/
import Derived.Test.YtbjblkfibinenabDoorSearch
import Derived.Test.YtbjblkfibinenabDoorIfExp
namespace Go.Proofs.YtbjblkfibinenabDoor
open Go.RowKit
end Go.Proofs.YtbjblkfibinenabDoor
