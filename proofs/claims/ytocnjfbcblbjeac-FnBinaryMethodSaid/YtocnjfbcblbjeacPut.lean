
/-
  Contracts of putting a number into a rising list.
-/
import Derived.Test.YtocnjfbcblbjeacSearch
import Derived.Test.YtocnjfbcblbjeacIfExp
namespace Go.Proofs.Ytocnjfbcblbjeac
open Go.RowKit
end Go.Proofs.Ytocnjfbcblbjeac
