
/-
  Contracts of the tests of a part, and of the rest of a fraction.
-/
import Derived.Test.YtleookfdngnphaaHas
import Derived.Test.YtleookfdngnphaaSum2
import Derived.Test.YtleookfdngnphaaOrder
namespace Go.Proofs.Ytleookfdngnphaa
open Go.RowKit
def partB : List Int → List Int → Bool
  | [], _ => true
  | x :: xs, ys => hasB ys x && partB xs ys
theorem part_yes {xs ys : List Int} {x : Int} (h : hasB ys x = true) : partB (x :: xs) ys = partB xs ys := by simp [partB, h]
theorem part_no {xs ys : List Int} {x : Int} (h : hasB ys x = false) : partB (x :: xs) ys = false := by simp [partB, h]
theorem ret_bbP {a b c d : Bool} (h : a = c) (h2 : b = d) : Ending.returned (.tuple #[.bool a, .bool b]) = .returned (.tuple #[.bool c, .bool d]) := by rw [h, h2]
def bothB (xs ys : List Int) : Bool := expB xs && expB ys
end Go.Proofs.Ytleookfdngnphaa
