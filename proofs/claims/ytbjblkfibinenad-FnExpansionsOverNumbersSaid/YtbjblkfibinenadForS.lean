
/-
  Contract of DivisorsFor in the model, whole.
-/
import Derived.Test.YtbjblkfibinenadForC
namespace Go.Proofs.Ytbjblkfibinenad
open Go.RowKit
end Go.Proofs.Ytbjblkfibinenad
