
/-
  The contract of the function that brings a quotient into lowest terms.
-/
import Derived.Test.YtiapljimgnhgoaaGcd
namespace Go.Proofs.Ytiapljimgnhgoaa
open Go.RowKit

end Go.Proofs.Ytiapljimgnhgoaa
