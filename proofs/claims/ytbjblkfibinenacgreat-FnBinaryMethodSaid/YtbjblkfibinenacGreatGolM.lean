
/-
  Contracts of the model's step of the method by inverses.
-/
import Derived.Test.YtbjblkfibinenacGreatGolS
namespace Go.Proofs.YtbjblkfibinenacGreat
open Go.RowKit
end Go.Proofs.YtbjblkfibinenacGreat
