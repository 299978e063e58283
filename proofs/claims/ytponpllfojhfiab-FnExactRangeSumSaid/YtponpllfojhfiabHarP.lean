
/-
  Plain facts on the sums of the unit fractions of numbers that follow one another.
-/
import Derived.Test.YtponpllfojhfiabSum2
namespace Go.Proofs.Ytponpllfojhfiab
open Go.RowKit
/-- k numbers from f on -/
def nums (f : Int) : Nat → List Int
  | 0 => []
  | k + 1 => nums f k ++ [f + (k : Int)]
theorem nums_len (f : Int) : ∀ k, (nums f k).length = k
  | 0 => rfl
  | k + 1 => by simp [nums, nums_len f k]
theorem nums_mem {f : Int} : ∀ {k : Nat} {x : Int}, x ∈ nums f k → f ≤ x ∧ x < f + (k : Int)
  | 0, x, h => by cases h
  | k + 1, x, h => by
    simp only [nums, List.mem_append, List.mem_singleton] at h
    rcases h with h | h
    · have := nums_mem h; omega
    · omega
theorem up_append {s : Int} : ∀ {xs : List Int} {lo x : Int}, up s lo xs = true → lo ≤ x → x ≤ 1000000000 → (∀ y ∈ xs, y + s ≤ x) → up s lo (xs ++ [x]) = true
  | [], lo, x, _, h1, h2, _ => by simp [up, h1, h2]
  | y :: ys, lo, x, h, h1, h2, h3 => by
    by_cases hy : lo ≤ y ∧ y ≤ 1000000000
    · rw [up_yes hy.1 hy.2] at h
      rw [List.cons_append, up_yes hy.1 hy.2]
      exact up_append h (h3 y (by simp)) h2 (fun z hz => h3 z (by simp [hz]))
    · rw [up_no hy] at h; cases h
theorem nums_up {f : Int} (hf : 1 ≤ f) : ∀ {k : Nat}, f + (k : Int) ≤ 1000000000 → up 1 1 (nums f k) = true
  | 0, _ => rfl
  | k + 1, h => up_append (nums_up hf (by omega)) (by omega) (by omega) (fun y hy => by have := nums_mem hy; omega)
theorem sumL_append : ∀ {xs ys : List Int} {n d : Int}, sumL n d (xs ++ ys) = (sumL n d xs).bind fun p => sumL p.1 p.2 ys
  | [], ys, n, d => rfl
  | x :: xs, ys, n, d => by
    cases h : redB (n * x + d) (d * x) with
    | true => rw [List.cons_append, sumL_yes h, sumL_yes h]; exact sumL_append
    | false => rw [List.cons_append, sumL_no h, sumL_no h]; rfl
/-- the sum from 0 on, in lowest terms, without bounds -/
def rs (f : Int) : Nat → Int × Int
  | 0 => (0, 1)
  | k + 1 => (((rs f k).1 * (f + (k : Int)) + (rs f k).2) / gcdI ((rs f k).1 * (f + (k : Int)) + (rs f k).2) ((rs f k).2 * (f + (k : Int))), ((rs f k).2 * (f + (k : Int))) / gcdI ((rs f k).1 * (f + (k : Int)) + (rs f k).2) ((rs f k).2 * (f + (k : Int))))
def rsB (f : Int) (k : Nat) : Bool := goodB (rs f k).1 (rs f k).2
theorem rs_step {f : Int} {k : Nat} (hf : 1 ≤ f) (h : rsB f k = true) : redB ((rs f k).1 * (f + (k : Int)) + (rs f k).2) ((rs f k).2 * (f + (k : Int))) = rsB f (k + 1) := by
  obtain ⟨n1, n2, d1, d2⟩ := good_bounds h
  have p1 := Int.mul_nonneg n1 (show 0 ≤ f + (k : Int) by omega)
  have p2 := mul_pos1 d1 (show 1 ≤ f + (k : Int) by omega)
  exact (good_red (by omega) p2).symm
theorem rs_sum {f : Int} (hf : 1 ≤ f) : ∀ {k : Nat}, (∀ j, j ≤ k → rsB f j = true) → sumL 0 1 (nums f k) = some (rs f k)
  | 0, _ => rfl
  | k + 1, h => by
    have ih := rs_sum hf (k := k) (fun j hj => h j (by omega))
    have hr := (rs_step hf (h k (by omega))).trans (h (k + 1) (by omega))
    rw [nums, sumL_append, ih, Option.bind_some, sumL_yes hr, redN, redD, if_pos hr, if_pos hr]
    rfl
theorem rs_none {f : Int} (hf : 1 ≤ f) {k : Nat} (h : ∀ j, j ≤ k → rsB f j = true) (hn : rsB f (k + 1) = false) : sumL 0 1 (nums f (k + 1)) = none := by
  rw [nums, sumL_append, rs_sum hf h, Option.bind_some, sumL_no ((rs_step hf (h k (Nat.le_refl k))).trans hn)]
/-- the sum of so many numbers is an expansion's if it is a fraction -/
theorem rs_exp {f : Int} (hf : 1 ≤ f) {k : Nat} (hk : k ≤ 23) (hb : f + (k : Int) + 1 ≤ 1000000000) (h : ∀ j, j ≤ k → rsB f j = true) :
    expB (nums f (k + 1)) = rsB f (k + 1) ∧ (rsB f (k + 1) = true → sumN (nums f (k + 1)) = (rs f (k + 1)).1 ∧ sumD (nums f (k + 1)) = (rs f (k + 1)).2) := by
  have hl : (nums f (k + 1)).length ≤ 24 := by rw [nums_len]; omega
  have hu : up 1 1 (nums f (k + 1)) = true := nums_up hf (by omega)
  rw [expB_eq hl hu]
  cases hb : rsB f (k + 1) with
  | true =>
    have hs := rs_sum hf (k := k + 1) (fun j hj => by
      rcases Nat.lt_or_ge j (k + 1) with h2 | h2
      · exact h j (by omega)
      · obtain rfl : j = k + 1 := by omega
        exact hb)
    exact ⟨by rw [hs]; rfl, fun _ => ⟨sumN_of hs, sumD_of hs⟩⟩
  | false => exact ⟨by rw [rs_none hf h hb]; rfl, fun h => by cases h⟩
theorem har_good : ∀ {k : Nat}, k ≤ 20 → rsB 1 k = true := fun {k} hk =>
  List.all_eq_true.1 (show (List.range 21).all (fun k => rsB 1 k) = true by decide +kernel) k (List.mem_range.2 (by omega))
theorem range_good {f : Nat} (hf : f ≤ 60) (h1 : 1 ≤ f) {k : Nat} (hk : k ≤ 5) : rsB (f : Int) k = true := by
  have h := List.all_eq_true.1 (show (List.range 61).all (fun f => (List.range 6).all fun k => f == 0 || rsB (f : Int) k) = true by decide +kernel) f (List.mem_range.2 (by omega))
  have h := List.all_eq_true.1 h k (List.mem_range.2 (by omega))
  have h0 : (f == 0) = false := by simp; omega
  rw [h0] at h
  simpa using h
/-- what the sum of numbers that follow one another is told as -/
def rsO (f : Int) (k : Nat) : Int × Int := if rsB f k = true then rs f k else (0, 0)
theorem rsO_eN {f : Int} (hf : 1 ≤ f) {k : Nat} (hk : k ≤ 23) (hb : f + (k : Int) + 1 ≤ 1000000000) (h : ∀ j, j ≤ k → rsB f j = true) :
    eN (nums f (k + 1)) = (rsO f (k + 1)).1 ∧ eD (nums f (k + 1)) = (rsO f (k + 1)).2 ∧ expB (nums f (k + 1)) = rsB f (k + 1) := by
  obtain ⟨h1, h2⟩ := rs_exp hf hk hb h
  refine ⟨?_, ?_, h1⟩
  · rw [eN, h1, rsO]
    cases hx : rsB f (k + 1) with
    | true => simp [(h2 hx).1]
    | false => rfl
  · rw [eD, h1, rsO]
    cases hx : rsB f (k + 1) with
    | true => simp [(h2 hx).2]
    | false => rfl
/-- harmonic sums that are greater -/
def hpB (n d : Int) (k : Nat) : Bool := decide (n * (rs 1 k).2 < (rs 1 k).1 * d)
def hpO (n d : Int) : Option Nat := if goodB n d = true then (List.range 21).find? (hpB n d) else none
theorem hp_found {n d : Int} (hg : goodB n d = true) {k : Nat} (hk : k ≤ 20) (h : hpB n d k = true) (hl : ∀ j, j < k → hpB n d j = false) : hpO n d = some k := by
  rw [hpO, if_pos hg, List.find?_range_eq_some]
  exact ⟨h, List.mem_range.2 (by omega), fun j hj => by rw [hl j hj]; rfl⟩
theorem hp_none {n d : Int} (hg : goodB n d = true) (hl : ∀ j, j < 21 → hpB n d j = false) : hpO n d = none := by
  rw [hpO, if_pos hg, List.find?_range_eq_none]
  intro j hj
  rw [hl j hj]; rfl
theorem hp_bad {n d : Int} (hg : goodB n d = false) : hpO n d = none := by rw [hpO, hg]; rfl
theorem hp_zero {n d : Int} (hg : goodB n d = true) : hpB n d 0 = false := by
  have := good_bounds hg
  simp [hpB, rs]
  omega
end Go.Proofs.Ytponpllfojhfiab
