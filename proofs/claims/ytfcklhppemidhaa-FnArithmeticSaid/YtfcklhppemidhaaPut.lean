
/-
  Contracts of putting a number into a rising list.
-/
import Derived.Test.YtfcklhppemidhaaSearch
import Derived.Test.YtfcklhppemidhaaIfExp
namespace Go.Proofs.Ytfcklhppemidhaa
open Go.RowKit
end Go.Proofs.Ytfcklhppemidhaa
