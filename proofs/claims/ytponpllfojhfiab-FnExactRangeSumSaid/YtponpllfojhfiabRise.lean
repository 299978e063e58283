
/-
  The contract of the model's test of a rising list.
-/
import Derived.Test.YtponpllfojhfiabList
import Derived.Test.YtponpllfojhfiabSumP
import Derived.Test.YtponpllfojhfiabFrac
namespace Go.Proofs.Ytponpllfojhfiab
open Go.RowKit
end Go.Proofs.Ytponpllfojhfiab
