
/-
  Plain facts on rising lists and on sums of unit fractions.
-/
import Derived.Test.YtbjblkfibinenadGreatPure
namespace Go.Proofs.YtbjblkfibinenadGreat
open Go.RowKit
/-- strictly increasing within bounds, behind a number that may be there -/
def rise (lo hi : Int) : Option Int → List Int → Bool
  | _, [] => true
  | p, t :: ts => decide (lo ≤ t) && decide (t ≤ hi) && (match p with | none => true | some q => decide (q < t)) && rise lo hi (some t) ts
/-- the number ahead of place k -/
def ahead (xs : List Int) (k : Nat) : Option Int := match k with | 0 => none | j + 1 => xs[j]?
/-- the sum from n / d on, if all sums on the way are small enough -/
def sumL : Int → Int → List Int → Option (Int × Int)
  | n, d, [] => some (n, d)
  | n, d, t :: ts => if redB (n * t + d) (d * t) = true then sumL (redN (n * t + d) (d * t)) (redD (n * t + d) (d * t)) ts else none
def expB (xs : List Int) : Bool := decide (xs.length ≤ 24) && rise 1 1000000000 none xs && (sumL 0 1 xs).isSome
def sumN (xs : List Int) : Int := ((sumL 0 1 xs).getD (0, 0)).1
def sumD (xs : List Int) : Int := ((sumL 0 1 xs).getD (0, 0)).2

theorem drop_at {xs : List Int} {k : Nat} {x : Int} (h : xs[k]? = some x) : xs.drop k = x :: xs.drop (k + 1) := by
  have hk : k < xs.length := (List.getElem?_eq_some_iff.1 h).1
  have hx : xs[k] = x := (List.getElem?_eq_some_iff.1 h).2
  rw [List.drop_eq_getElem_cons hk, hx]
theorem drop_all (xs : List Int) : xs.drop xs.length = [] := List.drop_of_length_le (Nat.le_refl _)
theorem rise_nil (lo hi : Int) (p : Option Int) : rise lo hi p [] = true := by cases p <;> rfl
theorem rise_out {lo hi t : Int} {p : Option Int} {ts : List Int} (h : ¬ (lo ≤ t ∧ t ≤ hi)) : rise lo hi p (t :: ts) = false := by
  unfold rise
  by_cases h1 : lo ≤ t
  · have h2 : ¬ t ≤ hi := fun h2 => h ⟨h1, h2⟩
    simp [h2]
  · simp [h1]
theorem rise_low {lo hi t q : Int} {ts : List Int} (h : ¬ q < t) : rise lo hi (some q) (t :: ts) = false := by unfold rise; simp [h]
theorem rise_first {lo hi t : Int} {ts : List Int} (h1 : lo ≤ t) (h2 : t ≤ hi) : rise lo hi none (t :: ts) = rise lo hi (some t) ts := by
  show (decide (lo ≤ t) && decide (t ≤ hi) && true && rise lo hi (some t) ts) = _
  simp [h1, h2]
theorem rise_next {lo hi t q : Int} {ts : List Int} (h1 : lo ≤ t) (h2 : t ≤ hi) (h3 : q < t) : rise lo hi (some q) (t :: ts) = rise lo hi (some t) ts := by
  show (decide (lo ≤ t) && decide (t ≤ hi) && decide (q < t) && rise lo hi (some t) ts) = _
  simp [h1, h2, h3]
/-- a number below all lets the first one by -/
theorem rise_zero {lo hi q : Int} {ts : List Int} (h : q < lo) : rise lo hi (some q) ts = rise lo hi none ts := by
  cases ts with
  | nil => rfl
  | cons t ts =>
    by_cases h1 : lo ≤ t ∧ t ≤ hi
    · rw [rise_first h1.1 h1.2, rise_next h1.1 h1.2 (by omega)]
    · rw [rise_out h1, rise_out h1]
theorem sumL_yes {n d t : Int} {ts : List Int} (h : redB (n * t + d) (d * t) = true) : sumL n d (t :: ts) = sumL (redN (n * t + d) (d * t)) (redD (n * t + d) (d * t)) ts := by
  show (if _ then _ else _) = _
  rw [if_pos h]
theorem sumL_no {n d t : Int} {ts : List Int} (h : redB (n * t + d) (d * t) = false) : sumL n d (t :: ts) = none := by
  show (if _ then _ else _) = _
  rw [h]; rfl
theorem expB_long {xs : List Int} (h : ¬ xs.length ≤ 24) : expB xs = false := by simp [expB, h]
theorem expB_rise {xs : List Int} (h : rise 1 1000000000 none xs = false) : expB xs = false := by simp [expB, h]
theorem expB_sum {xs : List Int} (h : sumL 0 1 xs = none) : expB xs = false := by simp [expB, h]
theorem expB_yes {xs : List Int} {n d : Int} (h1 : xs.length ≤ 24) (h2 : rise 1 1000000000 none xs = true) (h3 : sumL 0 1 xs = some (n, d)) : expB xs = true := by simp [expB, h1, h2, h3]
theorem sumN_of {xs : List Int} {n d : Int} (h : sumL 0 1 xs = some (n, d)) : sumN xs = n := by simp [sumN, h]
theorem sumD_of {xs : List Int} {n d : Int} (h : sumL 0 1 xs = some (n, d)) : sumD xs = d := by simp [sumD, h]
theorem expB_parts {xs : List Int} (h : expB xs = true) : xs.length ≤ 24 ∧ rise 1 1000000000 none xs = true ∧ sumL 0 1 xs = some (sumN xs, sumD xs) := by
  simp only [expB, Bool.and_eq_true, decide_eq_true_eq] at h
  refine ⟨h.1.1, h.1.2, ?_⟩
  cases hs : sumL 0 1 xs with
  | none => rw [hs] at h; cases h.2
  | some p => simp [sumN, sumD, hs]
/-- numbers in lowest terms that are small enough are a fraction -/
theorem good_of_redB {n d : Int} (hn : 0 ≤ n) (hd : 1 ≤ d) (h : redB n d = true) : goodB (redN n d) (redD n d) = true := by
  rw [redN, redD, if_pos h, if_pos h, good_red hn hd, h]
theorem good_unit {t : Int} (h1 : 1 ≤ t) (h2 : t ≤ 1000000000) : goodB 1 t = true := by
  rw [goodB_iff]
  refine ⟨by omega, by omega, h1, h2, ?_⟩
  unfold gcdI
  rw [Int.gcd_one_left]; rfl
theorem good_unit_no {t : Int} (h : ¬ (1 ≤ t ∧ t ≤ 1000000000)) : goodB 1 t = false := goodB_not (fun h2 => h ⟨h2.2.2.1, h2.2.2.2.1⟩)
theorem good_zero : goodB 0 1 = true := by decide +kernel
end Go.Proofs.YtbjblkfibinenadGreat
