
/-
  Plain facts on near fractions: which they are, and the greedy numbers below them.
-/
import Derived.Test.YtponpllfojhfiabWalkP
import Derived.Test.YtponpllfojhfiabRepP
namespace Go.Proofs.Ytponpllfojhfiab
open Go.RowKit
/-- a near fraction -/
def nrB (n d : Int) : Bool := goodB n d && decide (d ≤ 12) && decide (d ≤ 4 * n) && decide (n ≤ d)
/-- a near fraction and a number k for it -/
def nearB (n d k : Int) : Bool := nrB n d && decide (1 ≤ k) && (decide (k ≤ 3) || (decide (k = 4) && decide (n = d)))
theorem nrB_bad {n d : Int} (h : goodB n d = false) : nrB n d = false := by simp [nrB, h]
theorem nrB_good {n d : Int} (h : goodB n d = true) : nrB n d = (decide (d ≤ 12) && decide (d ≤ 4 * n) && decide (n ≤ d)) := by simp [nrB, h]
theorem nrB_iff {n d : Int} : nrB n d = true ↔ goodB n d = true ∧ d ≤ 12 ∧ d ≤ 4 * n ∧ n ≤ d := by simp [nrB, and_assoc]
theorem near_bad {n d k : Int} (h : nrB n d = false) : nearB n d k = false := by simp [nearB, h]
theorem near_low {n d k : Int} (h : ¬ 1 ≤ k) : nearB n d k = false := by simp [nearB, h]
theorem good_one {n d : Int} (h : goodB n d = true) (he : n = d) : n = 1 ∧ d = 1 := by
  have h2 := (goodB_iff n d).1 h
  obtain ⟨h1, h2, h3, h4, h5⟩ := h2
  subst he
  unfold gcdI at h5
  rw [Int.gcd_self] at h5
  omega
theorem near_one {k : Int} (h : 1 ≤ k) : nearB 1 1 k = decide (k ≤ 4) := by
  have h1 : nrB 1 1 = true := by decide +kernel
  by_cases h2 : k ≤ 4
  · by_cases h3 : k ≤ 3
    · simp [nearB, h1, h, h2, h3]
    · have : k = 4 := by omega
      subst this; simp [nearB, h1]
  · have h3 : ¬ k ≤ 3 := by omega
    have h4 : ¬ k = 4 := by omega
    simp [nearB, h1, h2, h3, h4]
theorem near_other {n d k : Int} (h : nrB n d = true) (hne : ¬ (n = 1 ∧ d = 1)) (hk : 1 ≤ k) : nearB n d k = decide (k ≤ 3) := by
  have hnd : ¬ n = d := fun e => hne (good_one (nrB_iff.1 h).1 e)
  simp [nearB, h, hk, hnd]
theorem near_bounds {n d k : Int} (h : nearB n d k = true) : goodB n d = true ∧ 1 ≤ n ∧ n ≤ 12 ∧ 1 ≤ d ∧ d ≤ 12 ∧ n ≤ d ∧ 1 ≤ k ∧ k ≤ 4 := by
  simp only [nearB, Bool.and_eq_true, Bool.or_eq_true, decide_eq_true_eq] at h
  obtain ⟨⟨h1, h2⟩, h3⟩ := h
  obtain ⟨g, a1, a2, a3⟩ := nrB_iff.1 h1
  obtain ⟨g1, g2, g3, g4⟩ := good_bounds g
  exact ⟨g, by omega, by omega, g3, a1, a3, h2, by omega⟩
/-- what holds for all near fractions and numbers, looked at one by one -/
theorem near_all (p : Int → Int → Int → Bool) (h : ((List.range 13).all fun n => (List.range 13).all fun d => (List.range 5).all fun k => !(nearB n d k) || p n d k) = true) {n d k : Int} (hn : nearB n d k = true) : p n d k = true := by
  obtain ⟨_, n1, n2, d1, d2, _, k1, k2⟩ := near_bounds hn
  obtain ⟨a, rfl⟩ := Int.eq_ofNat_of_zero_le (show 0 ≤ n by omega)
  obtain ⟨b, rfl⟩ := Int.eq_ofNat_of_zero_le (show 0 ≤ d by omega)
  obtain ⟨c, rfl⟩ := Int.eq_ofNat_of_zero_le (show 0 ≤ k by omega)
  have h1 := List.all_eq_true.1 h a (List.mem_range.2 (by omega))
  have h2 := List.all_eq_true.1 h1 b (List.mem_range.2 (by omega))
  have h3 := List.all_eq_true.1 h2 c (List.mem_range.2 (by omega))
  rw [hn] at h3
  simpa using h3
/-- the greedy numbers below n / d, k of them -/
def gbL : Nat → Int → Int → Option (List Int)
  | 0, _, _ => some []
  | k + 1, n, d => if (decide (1 ≤ n) && tB n d (d / n + 1)) = true then (gbL k (tN n d (d / n + 1)) (tD n d (d / n + 1))).map ((d / n + 1) :: ·) else none
def gbO (n d k : Int) : Option (List Int) := if nearB n d k = true then gbL k.toNat n d else none
theorem gbL_eq (k : Nat) (n d : Int) : gbL (k + 1) n d = if (decide (1 ≤ n) && tB n d (d / n + 1)) = true then (gbL k (tN n d (d / n + 1)) (tD n d (d / n + 1))).map ((d / n + 1) :: ·) else none := rfl
theorem gbL_step {k : Nat} {n d : Int} (h : (gbL (k + 1) n d).isSome = true) : 1 ≤ n ∧ tB n d (d / n + 1) = true ∧ gbL (k + 1) n d = (gbL k (tN n d (d / n + 1)) (tD n d (d / n + 1))).map ((d / n + 1) :: ·) := by
  rw [gbL_eq] at h ⊢
  by_cases hc : (decide (1 ≤ n) && tB n d (d / n + 1)) = true
  · rw [if_pos hc]
    simp only [Bool.and_eq_true, decide_eq_true_eq] at hc
    exact ⟨hc.1, hc.2, rfl⟩
  · rw [if_neg hc] at h; cases h
theorem gbL_len : ∀ {k : Nat} {n d : Int} {l : List Int}, gbL k n d = some l → l.length = k
  | 0, n, d, l, h => by simp [gbL] at h; subst h; rfl
  | k + 1, n, d, l, h => by
    have hs := gbL_step (k := k) (n := n) (d := d) (by rw [h]; rfl)
    rw [hs.2.2] at h
    cases hr : gbL k (tN n d (d / n + 1)) (tD n d (d / n + 1)) with
    | none => rw [hr] at h; cases h
    | some qs =>
      rw [hr] at h
      injection h with h
      subst h
      simp [gbL_len hr]
theorem near_greedy {n d k : Int} (h : nearB n d k = true) : (gbL k.toNat n d).isSome = true := near_all (fun n d k => (gbL k.toNat n d).isSome) (by decide +kernel) h
theorem gbO_no {n d k : Int} (h : nearB n d k = false) : gbO n d k = none := by rw [gbO, h]; rfl
theorem gbO_yes {n d k : Int} (h : nearB n d k = true) : gbO n d k = gbL k.toNat n d := by rw [gbO, if_pos h]
end Go.Proofs.Ytponpllfojhfiab
