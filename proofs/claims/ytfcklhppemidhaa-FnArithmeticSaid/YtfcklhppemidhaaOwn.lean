
/-
  Contracts of the model's own helpers on lists: a copy, and a number put into a rising list.
-/
import Derived.Test.YtfcklhppemidhaaLists
import Derived.Test.YtfcklhppemidhaaInsP
namespace Go.Proofs.Ytfcklhppemidhaa
open Go.RowKit
end Go.Proofs.Ytfcklhppemidhaa
