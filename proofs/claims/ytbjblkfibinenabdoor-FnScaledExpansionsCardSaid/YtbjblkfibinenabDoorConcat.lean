
/-
  The contract of the library's Concat of lists of ints.
-/
import Derived.Test.YtbjblkfibinenabDoorLists
import Derived.Lib.AppendZeros
namespace Go.Proofs.YtbjblkfibinenabDoor
open Go.RowKit
theorem flat_take {L : List (List Int)} {k : Nat} {zs : List Int} (h : L[k]? = some zs) : (L.take (k + 1)).flatten = (L.take k).flatten ++ zs := by
  have hk : k < L.length := (List.getElem?_eq_some_iff.1 h).1
  rw [List.take_succ_eq_append_getElem hk, (List.getElem?_eq_some_iff.1 h).2]
  simp
theorem flat_le (L : List (List Int)) (k : Nat) : (L.take k).flatten.length ≤ L.flatten.length := by
  have := congrArg (fun l : List (List Int) => l.flatten.length) (List.take_append_drop k L)
  simp only [List.flatten_append, List.length_append] at this
  omega
end Go.Proofs.YtbjblkfibinenabDoor
