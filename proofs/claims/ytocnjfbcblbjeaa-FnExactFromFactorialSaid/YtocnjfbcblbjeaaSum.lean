
/-
  Contracts of the sum of an expansion, and of the test of one, in the program and in the model.
-/
import Derived.Test.YtocnjfbcblbjeaaRise
import Derived.Test.YtocnjfbcblbjeaaArith
namespace Go.Proofs.Ytocnjfbcblbjeaa
open Go.RowKit
end Go.Proofs.Ytocnjfbcblbjeaa
