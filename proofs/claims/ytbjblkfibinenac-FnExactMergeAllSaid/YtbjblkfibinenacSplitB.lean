
/-
  Contracts of the split of a term by two numbers, in the program and in the model.
-/
import Derived.Test.YtbjblkfibinenacSplitP
namespace Go.Proofs.Ytbjblkfibinenac
open Go.RowKit
theorem emod_b {a b : Int} (h : a % b = 0) : (a % b != 0) = false := by simp [h]
theorem emod_b' {a b : Int} (h : ¬ a % b = 0) : (a % b != 0) = true := by simp [h]
end Go.Proofs.Ytbjblkfibinenac
