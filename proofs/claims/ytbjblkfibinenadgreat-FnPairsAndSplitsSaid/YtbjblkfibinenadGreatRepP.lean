
/-
  Plain facts on repeated lists: their sums, whether they are such, and the lists of numbers that follow one another.
-/
import Derived.Test.YtbjblkfibinenadGreatProdP
namespace Go.Proofs.YtbjblkfibinenadGreat
open Go.RowKit
/-- a repeated list -/
def repB (xs : List Int) : Bool := decide (xs.length ≤ 24) && up 0 1 xs && (sumL 0 1 xs).isSome
def rN (xs : List Int) : Int := if repB xs = true then sumN xs else 0
def rD (xs : List Int) : Int := if repB xs = true then sumD xs else 0
theorem rN_no {xs : List Int} (h : repB xs = false) : rN xs = 0 := by rw [rN, h]; rfl
theorem rD_no {xs : List Int} (h : repB xs = false) : rD xs = 0 := by rw [rD, h]; rfl
theorem repB_parts {xs : List Int} (h : repB xs = true) : xs.length ≤ 24 ∧ up 0 1 xs = true ∧ sumL 0 1 xs = some (sumN xs, sumD xs) := by
  simp only [repB, Bool.and_eq_true, decide_eq_true_eq] at h
  refine ⟨h.1.1, h.1.2, ?_⟩
  cases hs : sumL 0 1 xs with
  | none => rw [hs] at h; cases h.2
  | some p => simp [sumN, sumD, hs]
theorem repB_long {xs : List Int} (h : ¬ xs.length ≤ 24) : repB xs = false := by simp [repB, h]
theorem repB_up {xs : List Int} (h : up 0 1 xs = false) : repB xs = false := by simp [repB, h]
theorem repB_eq {xs : List Int} (h1 : xs.length ≤ 24) (h2 : up 0 1 xs = true) : repB xs = (sumL 0 1 xs).isSome := by simp [repB, h1, h2]
theorem expB_eq {xs : List Int} (h1 : xs.length ≤ 24) (h2 : up 1 1 xs = true) : expB xs = (sumL 0 1 xs).isSome := by simp [expB, h1, h2, rise_up0]
theorem expB_up {xs : List Int} (h : (decide (xs.length ≤ 24) && up 1 1 xs) = false) : expB xs = false := by
  simp only [expB, rise_up0]
  rw [h]; rfl
theorem up_idx {s lo : Int} (hs : 0 ≤ s) {xs : List Int} (h : up s lo xs = true) (i : Nat) (x : Int) (hx : xs[i]? = some x) : lo ≤ x ∧ x ≤ 1000000000 := up_in hs h x (List.mem_of_getElem? hx)
theorem sum_none {xs : List Int} (h : (sumL 0 1 xs).isSome = false) : sumN xs = 0 ∧ sumD xs = 0 := by
  cases hs : sumL 0 1 xs with
  | none => simp [sumN, sumD, hs]
  | some p => rw [hs] at h; cases h
end Go.Proofs.YtbjblkfibinenadGreat
