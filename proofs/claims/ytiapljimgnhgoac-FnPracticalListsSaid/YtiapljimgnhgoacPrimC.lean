
/-
  Contracts of IsPrimitive, in the program and in the model.
-/
import Derived.Test.YtiapljimgnhgoacNxC
namespace Go.Proofs.Ytiapljimgnhgoac
open Go.RowKit
/-- no quotient by one of the prime numbers is practical -/
def pmF (N : Nat) : List (Nat × Nat) → Bool
  | [] => true
  | x :: L => if brkO (N / x.1) = none ∧ N ≠ x.1 then false else pmF N L
theorem pmF_yes {N : Nat} {x : Nat × Nat} {L : List (Nat × Nat)} (h : brkO (N / x.1) = none) (h2 : N ≠ x.1) : pmF N (x :: L) = false := by rw [pmF, if_pos ⟨h, h2⟩]
theorem pmF_no {N : Nat} {x : Nat × Nat} {L : List (Nat × Nat)} (h : ¬ (brkO (N / x.1) = none ∧ N ≠ x.1)) : pmF N (x :: L) = pmF N L := by rw [pmF, if_neg h]
def pmB (n : Int) : Bool := prcB n && pmF n.toNat (pps n.toNat)
/-- a prime number is the number itself exactly if it is the only one, once -/
theorem pows_nil {p : Nat} {L : List (Nat × Nat)} (h : Pows p 1 L) : L = [] := by
  cases L with
  | nil => rfl
  | cons x L =>
    obtain ⟨a, b, c⟩ := (pows_mem h).2 x (by simp)
    have h1 : x.1 ^ 1 ≤ x.1 ^ x.2 := Nat.pow_le_pow_right (by omega) b
    rw [Nat.pow_one] at h1
    omega
theorem only_one {p l : Nat} {L : List (Nat × Nat)} (h : Pows p l L) {q c : Nat} (hx : (q, c) ∈ L) : l = q ↔ ¬ (1 < c ∨ 1 < L.length) := by
  cases h with
  | nil => cases hx
  | @cons _ q0 c0 r L0 hpq hq hc hqr hr hro hL =>
    have hq2 := hq.1
    have hqc : q0 ^ 1 ≤ q0 ^ c0 := Nat.pow_le_pow_right (by omega) hc
    rw [Nat.pow_one] at hqc
    have h1 : r * q0 ≤ r * q0 ^ c0 := Nat.mul_le_mul_left r hqc
    constructor
    · intro e
      rcases List.mem_cons.1 hx with h2 | h2
      · injection h2 with e1 e2
        subst e1 e2
        have hr1 : r = 1 := by
          rcases Nat.lt_or_ge 1 r with h3 | h3
          · have : 2 * q ≤ r * q := Nat.mul_le_mul_right q h3
            omega
          · omega
        subst hr1
        have hc1 : c = 1 := by
          rcases Nat.lt_or_ge 1 c with h3 | h3
          · have h4 : q ^ 2 ≤ q ^ c := Nat.pow_le_pow_right (by omega) h3
            have h5 : 2 * q ≤ q ^ 2 := by rw [Nat.pow_two]; exact Nat.mul_le_mul_right q hq2
            omega
          · omega
        rw [pows_nil hL]
        simp [hc1]
      · obtain ⟨a, b, d⟩ := (pows_mem hL).2 (q, c) h2
        have a' : 2 ≤ q := a
        have h3 : q ^ 1 ≤ q ^ c := Nat.pow_le_pow_right (by omega) b
        rw [Nat.pow_one] at h3
        have d' : q ^ c ≤ r := d
        have : r * 2 ≤ r * q0 := Nat.mul_le_mul_left r hq2
        omega
    · intro hn
      have hl : L0 = [] := by
        cases L0 with
        | nil => rfl
        | cons x L0 => exact absurd (.inr (by simp)) hn
      subst hl
      have h2 : q = q0 ∧ c = c0 := by simpa using hx
      obtain ⟨rfl, rfl⟩ := h2
      have hc1 : c = 1 := by omega
      subst hc1
      cases hL with
      | nil => simp
theorem quo_in {N p c k : Nat} (h1 : 1 ≤ N) (h2 : N ≤ 2000) (hx : (pps N)[k]? = some (p, c)) : 2 ≤ p ∧ p ≤ 2000 ∧ 1 ≤ N / p ∧ N / p ≤ 2000 ∧ 1 ≤ c ∧ c ≤ 2000 := by
  obtain ⟨a, b, d⟩ := (pows_mem (pps_pows h1 h2)).2 (p, c) (List.mem_of_getElem? hx)
  have a' : 2 ≤ p := a
  have h3 : p ^ 1 ≤ p ^ c := Nat.pow_le_pow_right (by omega) b
  rw [Nat.pow_one] at h3
  have d' : p ^ c ≤ N := d
  have h4 : c < p ^ c := Nat.lt_pow_self (by omega)
  have h5 : N / p ≤ N := Nat.div_le_self N p
  exact ⟨a', by omega, Nat.div_pos (by omega) (by omega), by omega, b, by omega⟩
theorem pmB_broken {N : Nat} (h : prcB (N : Int) = false) : pmB (N : Int) = false := by unfold pmB; rw [h]; rfl
theorem pmB_whole {N : Nat} (h : prcB (N : Int) = true) : pmB (N : Int) = pmF N (pps N) := by unfold pmB; rw [h]; rfl
end Go.Proofs.Ytiapljimgnhgoac
