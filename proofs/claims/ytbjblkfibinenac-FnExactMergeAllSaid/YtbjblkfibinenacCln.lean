
/-
  The library's contracts of slices.Clone at empty lists, at the seat of the last law on methods (elsewhere the seat's Shelf has them).
-/
import Derived.Test.YtbjblkfibinenacShelf
namespace Go.Proofs
end Go.Proofs
