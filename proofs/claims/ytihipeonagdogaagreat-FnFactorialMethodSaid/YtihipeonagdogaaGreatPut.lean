
/-
  Contracts of putting a number into a rising list.
-/
import Derived.Test.YtihipeonagdogaaGreatSearch
import Derived.Test.YtihipeonagdogaaGreatIfExp
namespace Go.Proofs.YtihipeonagdogaaGreat
open Go.RowKit
end Go.Proofs.YtihipeonagdogaaGreat
