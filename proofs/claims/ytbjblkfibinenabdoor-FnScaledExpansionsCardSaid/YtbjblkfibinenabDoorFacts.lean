
/-
  Closed facts on this seat's program, shared by all of its laws.
-/
import Derived.Test.YtbjblkfibinenabDoorRows
import Derived.JoinedOf
import Derived.KernelRfl
namespace Go.Proofs.YtbjblkfibinenabDoor
theorem mayEnter_eq : Tryd.prog.mayEnter = true := by kernel_rfl
theorem lifts_eq : Tryd.prog.liftsFinal = false := by kernel_rfl
theorem make_eq : Tryd.prog.make = some .cut := by kernel_rfl
end Go.Proofs.YtbjblkfibinenabDoor
