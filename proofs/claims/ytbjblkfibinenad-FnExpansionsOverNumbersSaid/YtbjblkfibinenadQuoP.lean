
/-
  Plain facts on quotients of a number by divisors.
-/
import Derived.Test.YtbjblkfibinenadIfExp
import Derived.Test.YtbjblkfibinenadDivC
namespace Go.Proofs.Ytbjblkfibinenad
open Go.RowKit
/-- whether all are divisors, and the quotients -/
def qB (n : Int) (ds : List Int) : Bool := ds.all (fun d => decide (1 ≤ d) && decide (n % d = 0))
def qL (n : Int) (ds : List Int) : List Int := ds.map (fun d => n / d)
def qR (n : Int) (ds : List Int) : List Int := if qB n ds = true then qL n ds else []
theorem qL_len (n : Int) (ds : List Int) : (qL n ds).length = ds.length := List.length_map ..
theorem qR_yes {n : Int} {ds : List Int} (h : qB n ds = true) : qR n ds = qL n ds := by unfold qR; rw [if_pos h]
theorem qR_no {n : Int} {ds : List Int} (h : qB n ds = false) : qR n ds = [] := by unfold qR; rw [h]; rfl
theorem qB_no {n d : Int} {ds : List Int} {k : Nat} (hk : ds[k]? = some d) (h : ¬ (1 ≤ d ∧ n % d = 0)) : qB n ds = false := by
  cases hq : qB n ds with
  | false => rfl
  | true =>
    have := List.all_eq_true.1 hq d (List.mem_of_getElem? hk)
    simp only [Bool.and_eq_true, decide_eq_true_eq] at this
    exact absurd this h
theorem qB_of {n : Int} {ds : List Int} (h : ∀ d ∈ ds, 1 ≤ d ∧ n % d = 0) : qB n ds = true := List.all_eq_true.2 fun d hd => by simp [h d hd]
theorem qB_mem {n : Int} {ds : List Int} (h : qB n ds = true) {d : Int} (hd : d ∈ ds) : 1 ≤ d ∧ n % d = 0 := by
  have := List.all_eq_true.1 h d hd
  simpa using this
theorem qL_at {n : Int} {ds : List Int} {k : Nat} {d : Int} (h : ds[k]? = some d) : (qL n ds)[k]? = some (n / d) := by unfold qL; rw [List.getElem?_map, h]; rfl
theorem qL_take {n : Int} {ds : List Int} {k : Nat} {d : Int} (h : ds[k]? = some d) : qL n (ds.take (k + 1)) = qL n (ds.take k) ++ [n / d] := by
  unfold qL
  rw [List.take_add_one, h]
  simp
theorem qL_64 {n : Int} {ds : List Int} (h0 : 0 ≤ n) (hn : n ≤ 4611686018427387904) (h : ∀ d ∈ ds, 1 ≤ d) : In64 (qL n ds) := In64.of_mem fun x hx => by
  obtain ⟨d, hd, rfl⟩ := List.mem_map.1 hx
  have h1 := h d hd
  have h2 := Int.ediv_le_self d h0
  have h3 := Int.ediv_nonneg h0 (show 0 ≤ d by omega)
  omega
end Go.Proofs.Ytbjblkfibinenad
