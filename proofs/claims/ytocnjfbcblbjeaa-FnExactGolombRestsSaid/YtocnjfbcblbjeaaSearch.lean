
/-
  The contract of the library's binary search in a rising list.
-/
import Derived.Test.YtocnjfbcblbjeaaInsP
import Derived.Test.YtocnjfbcblbjeaaOrder
namespace Go.Proofs.Ytocnjfbcblbjeaa
open Go.RowKit
end Go.Proofs.Ytocnjfbcblbjeaa
