
/-
  Contracts of the program's and the model's functions on Pierce lists.
-/
import Derived.Test.YtbjblkfibinenabPieS
namespace Go.Proofs.Ytbjblkfibinenab
open Go.RowKit
theorem pie_last {xs : List Int} (h : 1 < xs.length) : ∃ (k : Nat) (x y : Int), xs.length = k + 2 ∧ xs[k]? = some x ∧ xs[k + 1]? = some y ∧ nextB xs = decide (y = x + 1) := by
  have h1 : xs.length - 2 < xs.length := by omega
  have h2 : xs.length - 2 + 1 < xs.length := by omega
  exact ⟨xs.length - 2, xs[xs.length - 2], xs[xs.length - 2 + 1], by omega, List.getElem?_eq_getElem h1, List.getElem?_eq_getElem h2, nextB_last (k := xs.length - 2) (by omega) (List.getElem?_eq_getElem h1) (List.getElem?_eq_getElem h2)⟩
/-- why a list is none: it does not rise, or its last number is one more than that before it -/
def badB (xs : List Int) : Bool := !(decide (xs.length ≤ 24) && up 1 1 xs) || nextB xs
theorem badB_yes {xs : List Int} (h : badB xs = true) : pieB xs = false := by
  unfold badB at h
  unfold pieB
  cases h1 : (decide (xs.length ≤ 24) && up 1 1 xs) with
  | false => rfl
  | true =>
    rw [h1] at h
    have h2 : nextB xs = true := by simpa using h
    rw [h2]; rfl
theorem badB_no {xs : List Int} (h : badB xs = false) : xs.length ≤ 24 ∧ up 1 1 xs = true ∧ nextB xs = false := by
  simp only [badB, Bool.or_eq_false_iff, Bool.not_eq_false', Bool.and_eq_true, decide_eq_true_eq] at h
  exact ⟨h.1.1, h.1.2, h.2⟩
theorem wrap64_of {x : Int} (h1 : -9223372036854775808 ≤ x) (h2 : x ≤ 9223372036854775807) : IntKind.i64.wrap x = x := by rw [IntKind.wrap_i64]; omega
end Go.Proofs.Ytbjblkfibinenab
