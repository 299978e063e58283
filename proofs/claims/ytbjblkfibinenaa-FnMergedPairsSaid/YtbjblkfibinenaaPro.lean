
/-
  Contracts of the test of fractions that methods require.
-/
import Derived.Test.YtbjblkfibinenaaInvP
import Derived.Test.YtbjblkfibinenaaSteps
namespace Go.Proofs.Ytbjblkfibinenaa
open Go.RowKit
theorem RetQ.ret {v : Value} {w : World} {e : Ending} {w' : World} (h : RetQ v w e w') : Ret v w e w' := by
  obtain ⟨h1, n, rfl⟩ := h
  exact ⟨h1, belowDrewN (Below.refl _ _) n⟩
theorem proB_bounds {n d : Int} (h : proB n d = true) : 1 ≤ n ∧ n ≤ 1000000000 ∧ 2 ≤ d ∧ d ≤ 1000000000 ∧ n < d ∧ goodB n d = true ∧ gcdI n d = 1 ∧ invB n d = true := by
  obtain ⟨hg, hn, hd⟩ := (proB_iff n d).1 h
  obtain ⟨_, a, _, b, c⟩ := (goodB_iff n d).1 hg
  exact ⟨hn, a, by omega, b, hd, hg, c, (invB_iff n d).2 ⟨hn, a, by omega, b, c⟩⟩
end Go.Proofs.Ytbjblkfibinenaa
