
/-
  Contracts of the sum of an expansion, and of the test of one, in the program and in the model.
-/
import Derived.Test.YtfcklhppemidhaaRise
import Derived.Test.YtfcklhppemidhaaArith
namespace Go.Proofs.Ytfcklhppemidhaa
open Go.RowKit
end Go.Proofs.Ytfcklhppemidhaa
