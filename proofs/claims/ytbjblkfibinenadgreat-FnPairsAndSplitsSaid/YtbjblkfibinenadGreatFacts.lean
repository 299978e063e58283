
/-
  Closed facts on this seat's program, shared by all of its laws.
-/
import Derived.Test.YtbjblkfibinenadGreatRows
import Derived.JoinedOf
import Derived.KernelRfl
namespace Go.Proofs.YtbjblkfibinenadGreat
theorem mayEnter_eq : Tryz.prog.mayEnter = true := by kernel_rfl
theorem lifts_eq : Tryz.prog.liftsFinal = false := by kernel_rfl
theorem make_eq : Tryz.prog.make = some .cut := by kernel_rfl
end Go.Proofs.YtbjblkfibinenadGreat
