
/-
  Contracts of putting a number into a rising list.
-/
import Derived.Test.YtocnjfbcblbjeaaSearch
import Derived.Test.YtocnjfbcblbjeaaIfExp
namespace Go.Proofs.Ytocnjfbcblbjeaa
open Go.RowKit
end Go.Proofs.Ytocnjfbcblbjeaa
