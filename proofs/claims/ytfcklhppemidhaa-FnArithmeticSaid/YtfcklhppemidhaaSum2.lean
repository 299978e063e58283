
/-
  Contracts of the test of an expansion and of its sum.
-/
import Derived.Test.YtfcklhppemidhaaSum
namespace Go.Proofs.Ytfcklhppemidhaa
open Go.RowKit
theorem rise_in {lo hi : Int} : ∀ {xs : List Int} {p : Option Int}, rise lo hi p xs = true → ∀ (i : Nat) (x : Int), xs[i]? = some x → lo ≤ x ∧ x ≤ hi
  | [], _, _, i, x, h => by simp at h
  | t :: ts, p, hr, i, x, h => by
    unfold rise at hr
    simp only [Bool.and_eq_true, decide_eq_true_eq] at hr
    cases i with
    | zero => simp at h; subst h; exact ⟨hr.1.1.1, hr.1.1.2⟩
    | succ i => exact rise_in hr.2 i x (by simpa using h)

def eN (xs : List Int) : Int := if expB xs = true then sumN xs else 0
def eD (xs : List Int) : Int := if expB xs = true then sumD xs else 0
theorem eN_no {xs : List Int} (h : expB xs = false) : eN xs = 0 := by rw [eN, h]; rfl
theorem eD_no {xs : List Int} (h : expB xs = false) : eD xs = 0 := by rw [eD, h]; rfl

end Go.Proofs.Ytfcklhppemidhaa
