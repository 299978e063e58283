
/-
  Contracts of a number's divisors and their sum, in the program and in the model.
-/
import Derived.Test.YthkchhjidihkpaaDivP
import Derived.Test.YthkchhjidihkpaaApp
import Derived.Test.YthkchhjidihkpaaLists
import Derived.Test.YthkchhjidihkpaaFrac
namespace Go.Proofs.Ythkchhjidihkpaa
open Go.RowKit
/-- a number of this chapter -/
def numB (n : Int) : Bool := decide (1 ≤ n) && decide (n ≤ 2000)
theorem numB_iff (n : Int) : numB n = true ↔ 1 ≤ n ∧ n ≤ 2000 := by simp [numB]
theorem numB_nat {n : Int} (h : numB n = true) : ∃ N : Nat, n = (N : Int) ∧ 1 ≤ N ∧ N ≤ 2000 := by
  obtain ⟨h1, h2⟩ := (numB_iff n).1 h
  exact ⟨n.toNat, by omega, by omega, by omega⟩
theorem numB_of {N : Nat} (h1 : 1 ≤ N) (h2 : N ≤ 2000) : numB (N : Int) = true := (numB_iff _).2 ⟨by omega, by omega⟩
def ints (l : List Nat) : List Int := l.map (fun x : Nat => (x : Int))
theorem ints_len (l : List Nat) : (ints l).length = l.length := List.length_map ..
theorem ints_app (l m : List Nat) : ints (l ++ m) = ints l ++ ints m := List.map_append
theorem ints_at {l : List Nat} {i : Nat} {x : Int} (h : (ints l)[i]? = some x) : ∃ d : Nat, x = (d : Int) ∧ l[i]? = some d := by
  unfold ints at h
  rw [List.getElem?_map] at h
  cases hl : l[i]? with
  | none => rw [hl] at h; cases h
  | some d => rw [hl] at h; exact ⟨d, by injection h with h; exact h.symm, rfl⟩
/-- the divisors up to k, increasing -/
def asc (n k : Nat) : List Nat := (dsc n k).reverse
theorem asc_yes {n k : Nat} (h : n % (k + 1) = 0) : asc n (k + 1) = asc n k ++ [k + 1] := by unfold asc; rw [dsc_yes h, List.reverse_cons]
theorem asc_no {n k : Nat} (h : n % (k + 1) ≠ 0) : asc n (k + 1) = asc n k := by unfold asc; rw [dsc_no h]
theorem asc_len (n k : Nat) : (asc n k).length ≤ k := by unfold asc; rw [List.length_reverse]; exact dsc_len n k
theorem asc_mem {n k d : Nat} : d ∈ asc n k ↔ d ∈ dsc n k := by unfold asc; exact List.mem_reverse
def dvO (n : Int) : Option (List Nat) := if numB n = true then some (asc n.toNat n.toNat) else none
theorem dvO_yes {N : Nat} (h : numB (N : Int) = true) : dvO (N : Int) = some (asc N N) := by unfold dvO; rw [if_pos h]; rfl
theorem dvO_no {n : Int} (h : numB n = false) : dvO n = none := by unfold dvO; rw [h]; rfl
theorem dvO_len (n : Int) : ((dvO n).getD []).length ≤ 2000 := by
  unfold dvO
  split
  · rename_i h
    have := (numB_iff n).1 h
    have h2 := asc_len n.toNat n.toNat
    rw [Option.getD_some]
    omega
  · simp
/-- the tests on remainders, as the walks write them -/
theorem rem_yes {n k : Nat} (h : n % (k + 1) = 0) : (((n : Int) % ((k : Int) + 1) == 0) = true) ∧ (((n : Int).tmod ((k : Int) + 1) == 0) = true) := by
  have e : (n : Int) % ((k : Int) + 1) = 0 := by
    have : ((n % (k + 1) : Nat) : Int) = 0 := by rw [h]; rfl
    rw [Int.natCast_emod] at this
    exact this
  refine ⟨by simp [e], ?_⟩
  rw [Int.tmod_eq_emod_of_nonneg (by omega)]
  simp [e]
theorem rem_no {n k : Nat} (h : n % (k + 1) ≠ 0) : (((n : Int) % ((k : Int) + 1) == 0) = false) ∧ (((n : Int).tmod ((k : Int) + 1) == 0) = false) := by
  have e : ¬ (n : Int) % ((k : Int) + 1) = 0 := fun e => h (by
    have : ((n % (k + 1) : Nat) : Int) = 0 := by rw [Int.natCast_emod]; exact e
    omega)
  refine ⟨by simp [e], ?_⟩
  rw [Int.tmod_eq_emod_of_nonneg (by omega)]
  simp [e]
end Go.Proofs.Ythkchhjidihkpaa
