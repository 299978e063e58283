
/-
  Contracts of the model's functions on Pierce lists.
-/
import Derived.Test.YtbjblkfibinenabPierce
namespace Go.Proofs.Ytbjblkfibinenab
open Go.RowKit
end Go.Proofs.Ytbjblkfibinenab
