
/-
  The contract of the model's test of a rising list.
-/
import Derived.Test.YtfcklhppemidhaaList
import Derived.Test.YtfcklhppemidhaaSumP
import Derived.Test.YtfcklhppemidhaaFrac
namespace Go.Proofs.Ytfcklhppemidhaa
open Go.RowKit
end Go.Proofs.Ytfcklhppemidhaa
