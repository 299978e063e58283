
/-
  Contracts of the model's own helpers on lists: a copy, and a number put into a rising list.
-/
import Derived.Test.YthkchhjidihkpaaLists
import Derived.Test.YthkchhjidihkpaaInsP
namespace Go.Proofs.Ythkchhjidihkpaa
open Go.RowKit
end Go.Proofs.Ythkchhjidihkpaa
