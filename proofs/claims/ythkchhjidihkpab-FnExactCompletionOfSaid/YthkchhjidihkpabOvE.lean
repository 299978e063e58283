
/-
  Contract of ExpandOver, whole, in the model.
-/
import Derived.Test.YthkchhjidihkpabOvS
import Derived.Test.YthkchhjidihkpabForI
namespace Go.Proofs.Ythkchhjidihkpab
open Go.RowKit
theorem dfO_mem {n s : Int} {l : List Nat} (h : dfO n s = some l) : (∀ d ∈ l, 1 ≤ d ∧ d ≤ n.toNat) ∧ l.length ≤ 2000 := by
  have hl := dfO_len n s
  rw [h] at hl
  refine ⟨?_, by simpa using hl⟩
  unfold dfO at h
  split at h
  · injection h with h
    subst h
    exact fun d hd => pick_mem d hd
  · cases h
end Go.Proofs.Ythkchhjidihkpab
