
/-
  The contract of the library's binary search in a rising list.
-/
import Derived.Test.YtfcklhppemidhaaInsP
import Derived.Test.YtfcklhppemidhaaOrder
namespace Go.Proofs.Ytfcklhppemidhaa
open Go.RowKit
end Go.Proofs.Ytfcklhppemidhaa
