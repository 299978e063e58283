
/-
  The contract of the library's binary search in a rising list.
-/
import Derived.Test.YtfcklhppemidhaaDoorInsP
import Derived.Test.YtfcklhppemidhaaDoorOrder
namespace Go.Proofs.YtfcklhppemidhaaDoor
open Go.RowKit
end Go.Proofs.YtfcklhppemidhaaDoor
