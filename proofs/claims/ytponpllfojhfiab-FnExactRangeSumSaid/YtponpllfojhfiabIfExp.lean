
/-
  Contracts of the last step of functions that make an expansion: it is let pass only if it is one.
-/
import Derived.Test.YtponpllfojhfiabLists
import Derived.Test.YtponpllfojhfiabSum2
namespace Go.Proofs.Ytponpllfojhfiab
open Go.RowKit
def In64 (xs : List Int) : Prop := ∀ (i : Nat) (x : Int), xs[i]? = some x → -9223372036854775808 ≤ x ∧ x ≤ 9223372036854775807
theorem In64.of_mem {xs : List Int} (h : ∀ x ∈ xs, -9223372036854775808 ≤ x ∧ x ≤ 9223372036854775807) : In64 xs := fun _ x hx => h x (List.mem_of_getElem? hx)
theorem In64.mem {xs : List Int} (h : In64 xs) : ∀ x ∈ xs, -9223372036854775808 ≤ x ∧ x ≤ 9223372036854775807 := fun x hx => by
  obtain ⟨i, hi⟩ := List.getElem?_of_mem hx
  exact h i x hi
theorem expB_small {xs : List Int} (h : expB xs = true) : ∀ x ∈ xs, 1 ≤ x ∧ x ≤ 1000000000 := fun x hx => by
  obtain ⟨i, hi⟩ := List.getElem?_of_mem hx
  exact rise_in (expB_parts h).2.1 i x hi
theorem expB_len {xs : List Int} (h : expB xs = true) : xs.length ≤ 24 := (expB_parts h).1
end Go.Proofs.Ytponpllfojhfiab
