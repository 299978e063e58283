
/-
  The contract of the model's test of a rising list.
-/
import Derived.Test.YtocnjfbcblbjeaaList
import Derived.Test.YtocnjfbcblbjeaaSumP
import Derived.Test.YtocnjfbcblbjeaaFrac
namespace Go.Proofs.Ytocnjfbcblbjeaa
open Go.RowKit
end Go.Proofs.Ytocnjfbcblbjeaa
