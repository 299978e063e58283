
/-
  The contract of the model's sum of a Pierce list.
-/
import Derived.Test.YtbjblkfibinenabProd
import Derived.Test.YtbjblkfibinenabGrow
import Derived.Test.YtbjblkfibinenabSteps
namespace Go.Proofs.Ytbjblkfibinenab
open Go.RowKit
theorem parity (k : Nat) : (k % 2 = 0 ∧ ((k : Int).tmod 2 == 0) = true ∧ ((k : Int).tmod 2 == 1) = false ∧ ((k : Int) % 2 == 0) = true ∧ ((k : Int) % 2 == 1) = false ∧ ((k + 1) % 2 == 0) = false ∧ (k % 2 == 0) = true) ∨
    (k % 2 = 1 ∧ ((k : Int).tmod 2 == 0) = false ∧ ((k : Int).tmod 2 == 1) = true ∧ ((k : Int) % 2 == 0) = false ∧ ((k : Int) % 2 == 1) = true ∧ ((k + 1) % 2 == 0) = true ∧ (k % 2 == 0) = false) := by
  rw [Int.tmod_eq_emod_of_nonneg (by omega : 0 ≤ (k : Int))]
  rcases Nat.mod_two_eq_zero_or_one k with h | h
  · have h2 : (k : Int) % 2 = 0 := by omega
    have h3 : (k + 1) % 2 = 1 := by omega
    exact .inl (by rw [h2, h, h3]; decide)
  · have h2 : (k : Int) % 2 = 1 := by omega
    have h3 : (k + 1) % 2 = 0 := by omega
    exact .inr (by rw [h2, h, h3]; decide)
/-- sums and differences of the unit fractions of the products -/
def pieF (s : Bool) (p n d : Int) (xs : List Int) : Option (Int × Int) := (prodL p xs).bind (altL s n d)
theorem pieF_out {s : Bool} {p n d x : Int} {xs : List Int} (h : ¬ p * x ≤ 1000000000) : pieF s p n d (x :: xs) = none := by unfold pieF; rw [prodL_no h]; rfl
theorem pieF_add {p n d x : Int} {xs : List Int} (h : p * x ≤ 1000000000) (hr : redB (n * (p * x) + d) (d * (p * x)) = true) : pieF true p n d (x :: xs) = pieF false (p * x) (redN (n * (p * x) + d) (d * (p * x))) (redD (n * (p * x) + d) (d * (p * x))) xs := by
  unfold pieF
  rw [prodL_yes h]
  cases prodL (p * x) xs with
  | none => rfl
  | some ps => exact altL_add hr
theorem pieF_add_no {p n d x : Int} {xs : List Int} (h : p * x ≤ 1000000000) (hr : redB (n * (p * x) + d) (d * (p * x)) = false) : pieF true p n d (x :: xs) = none := by
  unfold pieF
  rw [prodL_yes h]
  cases prodL (p * x) xs with
  | none => rfl
  | some ps => exact altL_add_no hr
theorem pieF_sub {p n d x : Int} {xs : List Int} (h : p * x ≤ 1000000000) (hl : d ≤ n * (p * x)) (hr : redB (n * (p * x) - d) (d * (p * x)) = true) : pieF false p n d (x :: xs) = pieF true (p * x) (redN (n * (p * x) - d) (d * (p * x))) (redD (n * (p * x) - d) (d * (p * x))) xs := by
  unfold pieF
  rw [prodL_yes h]
  cases prodL (p * x) xs with
  | none => rfl
  | some ps => exact altL_sub hl hr
theorem pieF_sub_no {p n d x : Int} {xs : List Int} (h : p * x ≤ 1000000000) (hr : redB (n * (p * x) - d) (d * (p * x)) = false) : pieF false p n d (x :: xs) = none := by
  unfold pieF
  rw [prodL_yes h]
  cases prodL (p * x) xs with
  | none => rfl
  | some ps => exact altL_sub_no (fun _ => hr)
/-- what has been added can be taken away -/
theorem red_ge {n d q : Int} (hn : 0 ≤ n) (hd : 1 ≤ d) (hq : 1 ≤ q) (h : redB (n * q + d) (d * q) = true) : redD (n * q + d) (d * q) ≤ redN (n * q + d) (d * q) * q := by
  obtain ⟨hc, hd'⟩ := red_cross (mul_pos1 hd hq) h
  generalize redN (n * q + d) (d * q) = N at *
  generalize redD (n * q + d) (d * q) = D at *
  have h1 : 0 ≤ n * q := Int.mul_nonneg hn (by omega)
  have h2 : d * D ≤ (n * q + d) * D := Int.mul_le_mul_of_nonneg_right (by omega) (by omega)
  rw [← hc] at h2
  have h3 : N * (d * q) = d * (N * q) := by grind
  rw [h3] at h2
  exact Int.le_of_mul_le_mul_left h2 (by omega)
end Go.Proofs.Ytbjblkfibinenab
