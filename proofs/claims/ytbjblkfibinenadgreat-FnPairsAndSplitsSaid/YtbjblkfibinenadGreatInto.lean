
/-
  The contract of putting fresh numbers into an expansion.
-/
import Derived.Test.YtbjblkfibinenadGreatPut
import Derived.Test.YtbjblkfibinenadGreatKeep
namespace Go.Proofs.YtbjblkfibinenadGreat
open Go.RowKit
/-- the list with the fresh numbers in it, if none is there -/
def intoL : List Int → List Int → Option (List Int)
  | xs, [] => some xs
  | xs, f :: fs => if hasB xs f = true then none else intoL (insAt xs (pos xs f) f) fs
def intoB (xs fs : List Int) : Bool := match intoL xs fs with | some ys => expB ys | none => false
def intoR (xs fs : List Int) : List Int := match intoL xs fs with | some ys => if expB ys = true then ys else [] | none => []
theorem into_yes {xs fs : List Int} {f : Int} (h : hasB xs f = true) : intoL xs (f :: fs) = none := by rw [intoL, if_pos h]
theorem into_no {xs fs : List Int} {f : Int} (h : hasB xs f = false) : intoL xs (f :: fs) = intoL (insAt xs (pos xs f) f) fs := by rw [intoL, h]; rfl
theorem into_none {xs fs : List Int} (h : intoL xs fs = none) : intoB xs fs = false ∧ intoR xs fs = [] := by simp [intoB, intoR, h]
theorem into_some {xs fs ys : List Int} (h : intoL xs fs = some ys) : intoB xs fs = expB ys ∧ intoR xs fs = if expB ys = true then ys else [] := by simp [intoB, intoR, h]
theorem In64.ins {xs : List Int} {v : Int} (h : In64 xs) (hv : -9223372036854775808 ≤ v ∧ v ≤ 9223372036854775807) (p : Nat) : In64 (insAt xs p v) := In64.of_mem (fun x hx => by
  rcases ins_mem.1 hx with rfl | hx
  · exact hv
  · exact h.mem x hx)
theorem ret_lnil {w w' : World} (h : Below w.heap.size w w') : RetLB [] false w (.returned (.tuple #[.slice none 0 0, .bool false])) w' := ⟨_, rfl, OwnI.empty _ _, h⟩
end Go.Proofs.YtbjblkfibinenadGreat
