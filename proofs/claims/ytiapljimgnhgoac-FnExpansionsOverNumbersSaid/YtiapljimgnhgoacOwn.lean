
/-
  Contracts of the model's own helpers on lists: a copy, and a number put into a rising list.
-/
import Derived.Test.YtiapljimgnhgoacLists
import Derived.Test.YtiapljimgnhgoacInsP
namespace Go.Proofs.Ytiapljimgnhgoac
open Go.RowKit
end Go.Proofs.Ytiapljimgnhgoac
