
/-
  Plain facts on Sylvester's numbers.
-/
import Derived.Test.YtbjblkfibinenacSumP
namespace Go.Proofs.Ytbjblkfibinenac
open Go.RowKit
theorem sq_grow {x : Int} (h : 2 ≤ x) : x + 1 ≤ x * (x - 1) + 1 := by
  have : 0 ≤ x * (x - 2) := Int.mul_nonneg (by omega) (by omega)
  have e : x * (x - 1) = x * (x - 2) + x := by grind
  omega
def syl : Nat → Int
  | 0 => 2
  | k + 1 => syl k * (syl k - 1) + 1
theorem syl_two : ∀ k, 2 ≤ syl k
  | 0 => by simp [syl]
  | k + 1 => by have := syl_two k; have := sq_grow this; simp only [syl]; omega
theorem syl6 : 1000000000 < syl 6 := by decide +kernel
theorem syl_next (k : Nat) : syl (k + 1) = syl k * (syl k - 1) + 1 := rfl
theorem syl_small : ∀ k, k ≤ 5 → syl k ≤ 3263443
  | 0, _ => by decide +kernel
  | 1, _ => by decide +kernel
  | 2, _ => by decide +kernel
  | 3, _ => by decide +kernel
  | 4, _ => by decide +kernel
  | 5, _ => by decide +kernel
  | k + 6, h => by omega
theorem syl_prod (k : Nat) (h : k ≤ 5) : 2 ≤ syl k * (syl k - 1) ∧ syl k * (syl k - 1) ≤ 10650056950806 := by
  have h1 := syl_two k
  have h2 := syl_small k h
  have h3 : syl k * (syl k - 1) ≤ 3263443 * 3263442 := Int.mul_le_mul h2 (by omega) (by omega) (by omega)
  have h4 : 2 * 1 ≤ syl k * (syl k - 1) := Int.mul_le_mul h1 (by omega) (by omega) (by omega)
  omega
/-- what the first k of them leave of 1 -/
theorem syl_gap (k : Nat) (h : k ≤ 4) : redB (1 * syl k - 1 * (syl k - 1)) ((syl k - 1) * syl k) = true ∧ (1 * syl k - 1 * (syl k - 1)) / gcdI (1 * syl k - 1 * (syl k - 1)) ((syl k - 1) * syl k) = 1 ∧ ((syl k - 1) * syl k) / gcdI (1 * syl k - 1 * (syl k - 1)) ((syl k - 1) * syl k) = syl (k + 1) - 1 := by
  match k, h with
  | 0, _ => decide +kernel
  | 1, _ => decide +kernel
  | 2, _ => decide +kernel
  | 3, _ => decide +kernel
  | 4, _ => decide +kernel
  | k + 5, h => omega
def sylN (k : Int) : Int := if 0 ≤ k ∧ k ≤ 5 then syl k.toNat else 0
def sylB (k : Int) : Bool := decide (0 ≤ k) && decide (k ≤ 5)
end Go.Proofs.Ytbjblkfibinenac
