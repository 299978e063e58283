
/-
  Closed facts on this seat's program, shared by all of its laws.
-/
import Derived.Test.YtbjblkfibinenacRows
import Derived.JoinedOf
import Derived.KernelRfl
namespace Go.Proofs.Ytbjblkfibinenac
theorem mayEnter_eq : Try.prog.mayEnter = true := by kernel_rfl
theorem lifts_eq : Try.prog.liftsFinal = false := by kernel_rfl
theorem make_eq : Try.prog.make = some .cut := by kernel_rfl
end Go.Proofs.Ytbjblkfibinenac
