
/-
  Contracts of the search for a number in a list.
-/
import Derived.Test.YtbjblkfibinenadGreatList
import Derived.Test.YtbjblkfibinenadGreatSumP
namespace Go.Proofs.YtbjblkfibinenadGreat
open Go.RowKit
def hasB : List Int → Int → Bool
  | [], _ => false
  | y :: ys, x => decide (y = x) || hasB ys x
def idxFrom : Nat → List Int → Int → Int
  | _, [], _ => -1
  | k, y :: ys, x => if y = x then (k : Int) else idxFrom (k + 1) ys x
theorem hasB_iff (xs : List Int) (x : Int) : hasB xs x = true ↔ x ∈ xs := by
  induction xs with
  | nil => simp [hasB]
  | cons y ys ih =>
    simp only [hasB, Bool.or_eq_true, decide_eq_true_eq, ih, List.mem_cons]
    exact ⟨fun h => h.imp Eq.symm id, fun h => h.imp Eq.symm id⟩
theorem idx_hit {k : Nat} {ys : List Int} {x y : Int} (h : y = x) : idxFrom k (y :: ys) x = k := by simp [idxFrom, h]
theorem idx_miss {k : Nat} {ys : List Int} {x y : Int} (h : y ≠ x) : idxFrom k (y :: ys) x = idxFrom (k + 1) ys x := by simp [idxFrom, h]
theorem idx_has (xs : List Int) (x : Int) : ∀ k : Nat, decide (0 ≤ idxFrom k xs x) = hasB xs x := by
  induction xs with
  | nil => intro k; rfl
  | cons y ys ih =>
    intro k
    by_cases h : y = x
    · rw [idx_hit h]; simp [hasB, h]
    · rw [idx_miss h, ih]; simp [hasB, h]
theorem has_hit {ys : List Int} {x y : Int} (h : y = x) : hasB (y :: ys) x = true := by simp [hasB, h]
theorem has_miss {ys : List Int} {x y : Int} (h : y ≠ x) : hasB (y :: ys) x = hasB ys x := by simp [hasB, h]

end Go.Proofs.YtbjblkfibinenadGreat
