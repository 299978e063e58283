
/-
  Contracts of the order of fractions, of differences, and of whole numbers next to a fraction.
-/
import Derived.Test.YtbjblkfibinenabDoorArith
namespace Go.Proofs.YtbjblkfibinenabDoor
open Go.RowKit
/- differences -/
theorem cmpI_ge {x y : Int} (h : y ≤ x) : 0 ≤ cmpI x y := by unfold cmpI; split <;> (try split) <;> omega
end Go.Proofs.YtbjblkfibinenabDoor
