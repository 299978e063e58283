
/-
  Contracts of the model's step of the method by inverses.
-/
import Derived.Test.YtocnjfbcblbjeacGolS
namespace Go.Proofs.Ytocnjfbcblbjeac
open Go.RowKit
end Go.Proofs.Ytocnjfbcblbjeac
