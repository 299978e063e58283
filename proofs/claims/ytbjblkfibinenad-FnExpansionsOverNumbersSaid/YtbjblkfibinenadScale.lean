
/-
  Contracts of the scaling of an expansion.
-/
import Derived.Test.YtbjblkfibinenadIfExp
namespace Go.Proofs.Ytbjblkfibinenad
open Go.RowKit
def scaleB (xs : List Int) (k : Int) : Bool := expB xs && decide (1 ≤ k) && decide (k ≤ 1000000000) && expB (xs.map (k * ·))
def scaleL (xs : List Int) (k : Int) : List Int := if scaleB xs k = true then xs.map (k * ·) else []
theorem scale_no {xs : List Int} {k : Int} (h : scaleB xs k = false) : scaleL xs k = [] := by rw [scaleL, h]; rfl
theorem scale_exp {xs : List Int} {k : Int} (h : expB xs = false) : scaleB xs k = false := by simp [scaleB, h]
theorem scale_out {xs : List Int} {k : Int} (h : ¬ (1 ≤ k ∧ k ≤ 1000000000)) : scaleB xs k = false := by
  unfold scaleB
  by_cases h1 : 1 ≤ k
  · have : ¬ k ≤ 1000000000 := fun h2 => h ⟨h1, h2⟩
    simp [this]
  · simp [h1]
theorem scale_in {xs : List Int} {k : Int} (h : expB xs = true) (h1 : 1 ≤ k) (h2 : k ≤ 1000000000) : scaleB xs k = expB (xs.map (k * ·)) := by simp [scaleB, h, h1, h2]
theorem scale_len (xs : List Int) (k : Int) : (scaleL xs k).length ≤ 1048576 := by
  unfold scaleL
  split
  · rename_i h
    have : expB xs = true := by simp only [scaleB, Bool.and_eq_true] at h; exact h.1.1.1
    have := expB_len this
    simp; omega
  · simp
theorem scale_64 {xs : List Int} {k : Int} (h : expB xs = true) (h1 : 1 ≤ k) (h2 : k ≤ 1000000000) : In64 (xs.map (k * ·)) := In64.of_mem (fun x hx => by
  obtain ⟨y, hy, rfl⟩ := List.mem_map.1 hx
  have hb := expB_small h y hy
  have := mul_bounds (by omega : 0 ≤ k) h2 (by omega : 0 ≤ y) hb.2
  omega)
theorem take_next {zs : List Int} {j : Nat} {x : Int} (h : zs[j]? = some x) : zs.take (j + 1) = zs.take j ++ [x] := by
  have hk : j < zs.length := (List.getElem?_eq_some_iff.1 h).1
  rw [List.take_succ_eq_append_getElem hk, (List.getElem?_eq_some_iff.1 h).2]
theorem ret_nil {w w' : World} (h : Below w.heap.size w w') : RetLB [] false w (.returned (.tuple #[.slice none 0 0, .bool false])) w' := ⟨_, rfl, OwnI.empty _ _, h⟩
theorem ret_rnil {w w' : World} (h : Below w.heap.size w w') : RetRB [] false w (.returned (.tuple #[.slice none 0 0, .bool false])) w' := ⟨none, 0, rfl, Reads.nil, h⟩

end Go.Proofs.Ytbjblkfibinenad
