
/-
  Contracts of putting a number into a rising list.
-/
import Derived.Test.YtfcklhppemidhaaDoorSearch
import Derived.Test.YtfcklhppemidhaaDoorIfExp
namespace Go.Proofs.YtfcklhppemidhaaDoor
open Go.RowKit
end Go.Proofs.YtfcklhppemidhaaDoor
