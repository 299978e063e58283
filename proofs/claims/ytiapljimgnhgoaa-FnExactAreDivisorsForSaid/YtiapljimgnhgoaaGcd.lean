
/-
  Contracts of the two functions that compute greatest common divisors.
-/
import Derived.Test.YtiapljimgnhgoaaPure
namespace Go.Proofs.Ytiapljimgnhgoaa
open Go.RowKit

end Go.Proofs.Ytiapljimgnhgoaa
