
/-
  Contracts of the model's own helpers on lists: a copy, and a number put into a rising list.
-/
import Derived.Test.YtiapljimgnhgoabLists
import Derived.Test.YtiapljimgnhgoabInsP
namespace Go.Proofs.Ytiapljimgnhgoab
open Go.RowKit
end Go.Proofs.Ytiapljimgnhgoab
