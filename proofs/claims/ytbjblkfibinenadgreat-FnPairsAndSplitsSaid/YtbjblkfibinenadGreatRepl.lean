
/-
  The contract of the model's exchange of one term for two numbers.
-/
import Derived.Test.YtbjblkfibinenadGreatOwn
import Derived.Test.YtbjblkfibinenadGreatIfExp
import Derived.Test.YtbjblkfibinenadGreatHas
import Derived.IntWalk
import Derived.Deep.RegionLaw
namespace Go.Proofs.YtbjblkfibinenadGreat
open Go.RowKit
/-- what stands in the list without the number at place i -/
def restL (xs : List Int) (i : Nat) : List Int := xs.take i ++ xs.drop (i + 1)
def replB (xs : List Int) (i : Nat) (a b : Int) : Bool := !hasB (restL xs i) a && !hasB (restL xs i) b && expB (putL (putL (restL xs i) a) b)
def replL (xs : List Int) (i : Nat) (a b : Int) : List Int := if replB xs i a b = true then putL (putL (restL xs i) a) b else []
theorem repl_no {xs : List Int} {i : Nat} {a b : Int} (h : replB xs i a b = false) : replL xs i a b = [] := by rw [replL, h]; rfl
theorem repl_a {xs : List Int} {i : Nat} {a b : Int} (h : hasB (restL xs i) a = true) : replB xs i a b = false := by simp [replB, h]
theorem repl_b {xs : List Int} {i : Nat} {a b : Int} (h : hasB (restL xs i) b = true) : replB xs i a b = false := by simp [replB, h]
theorem repl_c {xs : List Int} {i : Nat} {a b : Int} (h : hasB (restL xs i) a = false) (h2 : hasB (restL xs i) b = false) : replB xs i a b = expB (putL (putL (restL xs i) a) b) := by simp [replB, h, h2]
theorem put_len (xs : List Int) (v : Int) : (putL xs v).length ≤ xs.length + 1 := by
  unfold putL
  split
  · omega
  · rw [ins_len _ _ _ (pos_le xs v)]; omega
theorem rest_len (xs : List Int) (i : Nat) : (restL xs i).length ≤ xs.length := by simp [restL]; omega
theorem ret_rnil' {w w' : World} (h : Below w.heap.size w w') : RetRB [] false w (.returned (.tuple #[.slice none 0 0, .bool false])) w' := ⟨none, 0, rfl, Reads.nil, h⟩
end Go.Proofs.YtbjblkfibinenadGreat
