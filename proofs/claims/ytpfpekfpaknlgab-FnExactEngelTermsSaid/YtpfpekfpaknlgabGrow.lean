
/-
  Contracts of the test whether the terms of an expansion grow faster than squares.
-/
import Derived.Test.YtpfpekfpaknlgabIfExp
import Derived.Test.YtpfpekfpaknlgabProdP
namespace Go.Proofs.Ytpfpekfpaknlgab
open Go.RowKit
def gB (xs : List Int) : Bool := expB xs && growsL xs
theorem gB_no {xs : List Int} (h : expB xs = false) : gB xs = false := by simp [gB, h]
theorem gB_yes {xs : List Int} (h : expB xs = true) : gB xs = growsL xs := by simp [gB, h]
theorem ret_bb {a b c d : Bool} (h : a = c) (h2 : b = d) : Ending.returned (.tuple #[.bool a, .bool b]) = .returned (.tuple #[.bool c, .bool d]) := by rw [h, h2]
end Go.Proofs.Ytpfpekfpaknlgab
