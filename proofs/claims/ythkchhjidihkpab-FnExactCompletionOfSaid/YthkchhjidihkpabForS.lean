
/-
  Contract of DivisorsFor in the model, whole.
-/
import Derived.Test.YthkchhjidihkpabForC
namespace Go.Proofs.Ythkchhjidihkpab
open Go.RowKit
end Go.Proofs.Ythkchhjidihkpab
