
/-
  Contracts of the model's own helpers on lists: a copy, and a number put into a rising list.
-/
import Derived.Test.YtdpllknpdmkifabLists
import Derived.Test.YtdpllknpdmkifabInsP
namespace Go.Proofs.Ytdpllknpdmkifab
open Go.RowKit
end Go.Proofs.Ytdpllknpdmkifab
