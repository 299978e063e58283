
/-
  Contracts of the model's own helpers on lists: a copy, and a number put into a rising list.
-/
import Derived.Test.YtbjblkfibinenabLists
import Derived.Test.YtbjblkfibinenabInsP
namespace Go.Proofs.Ytbjblkfibinenab
open Go.RowKit
end Go.Proofs.Ytbjblkfibinenab
