
/-
  Plain facts on lists that rise or do not fall, on the products of their first numbers, and on sums and differences of the unit fractions of these.
-/
import Derived.Test.YtbjblkfibinenadGreatRise
namespace Go.Proofs.YtbjblkfibinenadGreat
open Go.RowKit
/-- each number is at least lo, and the next one by so much more than it -/
def up (s : Int) : Int → List Int → Bool
  | _, [] => true
  | lo, x :: xs => decide (lo ≤ x) && decide (x ≤ 1000000000) && up s (x + s) xs
theorem up_yes {s lo x : Int} {xs : List Int} (h1 : lo ≤ x) (h2 : x ≤ 1000000000) : up s lo (x :: xs) = up s (x + s) xs := by simp [up, h1, h2]
theorem up_no {s lo x : Int} {xs : List Int} (h : ¬ (lo ≤ x ∧ x ≤ 1000000000)) : up s lo (x :: xs) = false := by
  unfold up
  by_cases h1 : lo ≤ x
  · have h2 : ¬ x ≤ 1000000000 := fun h2 => h ⟨h1, h2⟩
    simp [h2]
  · simp [h1]
theorem up_in {s : Int} (hs : 0 ≤ s) : ∀ {xs : List Int} {lo : Int}, up s lo xs = true → ∀ x ∈ xs, lo ≤ x ∧ x ≤ 1000000000
  | [], _, _, x, h => by cases h
  | y :: ys, lo, hu, x, h => by
    by_cases hy : lo ≤ y ∧ y ≤ 1000000000
    · rw [up_yes hy.1 hy.2] at hu
      rcases List.mem_cons.1 h with rfl | h
      · exact hy
      · have := up_in hs hu x h; omega
    · rw [up_no hy] at hu; cases hu
theorem rise_up (p : Int) : ∀ (xs : List Int), 0 ≤ p → rise 1 1000000000 (some p) xs = up 1 (p + 1) xs
  | [], _ => rfl
  | x :: xs, hp => by
    by_cases h : p + 1 ≤ x ∧ x ≤ 1000000000
    · rw [up_yes h.1 h.2, rise_next (by omega) h.2 (by omega)]
      exact rise_up x xs (by omega)
    · rw [up_no h]
      by_cases h2 : 1 ≤ x ∧ x ≤ 1000000000
      · exact rise_low (by omega)
      · exact rise_out h2
theorem rise_up0 (xs : List Int) : rise 1 1000000000 none xs = up 1 1 xs := by
  have := rise_up 0 xs (by omega)
  rw [rise_zero (by omega)] at this
  exact this
/-- the products of the first numbers, from p on, if none is too great -/
def prodL : Int → List Int → Option (List Int)
  | _, [] => some []
  | p, x :: xs => if p * x ≤ 1000000000 then (prodL (p * x) xs).map (p * x :: ·) else none
theorem prodL_yes {p x : Int} {xs : List Int} (h : p * x ≤ 1000000000) : prodL p (x :: xs) = (prodL (p * x) xs).map (p * x :: ·) := by simp [prodL, h]
theorem prodL_no {p x : Int} {xs : List Int} (h : ¬ p * x ≤ 1000000000) : prodL p (x :: xs) = none := by simp [prodL, h]
theorem prodL_len : ∀ {xs ps : List Int} {p : Int}, prodL p xs = some ps → ps.length = xs.length
  | [], ps, p, h => by simp [prodL] at h; subst h; rfl
  | x :: xs, ps, p, h => by
    by_cases hx : p * x ≤ 1000000000
    · rw [prodL_yes hx] at h
      cases hr : prodL (p * x) xs with
      | none => rw [hr] at h; cases h
      | some qs =>
        rw [hr] at h
        injection h with h
        subst h
        simp [prodL_len hr]
    · rw [prodL_no hx] at h; cases h
theorem prodL_in : ∀ {xs ps : List Int} {p : Int}, 1 ≤ p → (∀ x ∈ xs, 1 ≤ x) → prodL p xs = some ps → ∀ q ∈ ps, p ≤ q ∧ q ≤ 1000000000
  | [], ps, p, _, _, h => by simp [prodL] at h; subst h; intro q hq; cases hq
  | x :: xs, ps, p, hp, hx, h => by
    have h1 := hx x (by simp)
    have h2 : p * 1 ≤ p * x := Int.mul_le_mul_of_nonneg_left h1 (by omega)
    by_cases hle : p * x ≤ 1000000000
    · rw [prodL_yes hle] at h
      cases hr : prodL (p * x) xs with
      | none => rw [hr] at h; cases h
      | some qs =>
        rw [hr] at h
        injection h with h
        subst h
        intro q hq
        rcases List.mem_cons.1 hq with rfl | hq
        · omega
        · have := prodL_in (by omega) (fun x hx' => hx x (by simp [hx'])) hr q hq
          omega
    · rw [prodL_no hle] at h; cases h
/-- behind numbers of at least 2 the products rise -/
theorem prodL_rise : ∀ {xs ps : List Int} {p : Int}, 1 ≤ p → (∀ x ∈ xs, 2 ≤ x) → prodL p xs = some ps → rise 1 1000000000 (some p) ps = true
  | [], ps, p, _, _, h => by simp [prodL] at h; subst h; rfl
  | x :: xs, ps, p, hp, hx, h => by
    have h1 := hx x (by simp)
    have h2 : p * 2 ≤ p * x := Int.mul_le_mul_of_nonneg_left h1 (by omega)
    by_cases hle : p * x ≤ 1000000000
    · rw [prodL_yes hle] at h
      cases hr : prodL (p * x) xs with
      | none => rw [hr] at h; cases h
      | some qs =>
        rw [hr] at h
        injection h with h
        subst h
        rw [rise_next (by omega) hle (by omega)]
        exact prodL_rise (by omega) (fun x hx' => hx x (by simp [hx'])) hr
    · rw [prodL_no hle] at h; cases h

/- Engel lists -/
/-- the sum of the unit fractions of the products -/
def engS (xs : List Int) : Option (Int × Int) := (prodL 1 xs).bind (sumL 0 1)
def engB (xs : List Int) : Bool := decide (xs.length ≤ 24) && up 0 2 xs && (engS xs).isSome
def engN (xs : List Int) : Int := if engB xs = true then ((engS xs).getD (0, 0)).1 else 0
def engD (xs : List Int) : Int := if engB xs = true then ((engS xs).getD (0, 0)).2 else 0
theorem engB_long {xs : List Int} (h : ¬ xs.length ≤ 24) : engB xs = false := by simp [engB, h]
theorem engB_up {xs : List Int} (h : up 0 2 xs = false) : engB xs = false := by simp [engB, h]
theorem engB_none {xs : List Int} (h : engS xs = none) : engB xs = false := by simp [engB, h]
theorem engB_yes {xs : List Int} {n d : Int} (h1 : xs.length ≤ 24) (h2 : up 0 2 xs = true) (h3 : engS xs = some (n, d)) : engB xs = true := by simp [engB, h1, h2, h3]
theorem engB_parts {xs : List Int} (h : engB xs = true) : xs.length ≤ 24 ∧ up 0 2 xs = true ∧ engS xs = some (engN xs, engD xs) := by
  have h0 := h
  simp only [engB, Bool.and_eq_true, decide_eq_true_eq] at h
  refine ⟨h.1.1, h.1.2, ?_⟩
  cases hs : engS xs with
  | none => rw [hs] at h; cases h.2
  | some p => simp [engN, engD, hs, h0]
theorem eng_no {xs : List Int} (h : engB xs = false) : engN xs = 0 ∧ engD xs = 0 := by simp [engN, engD, h]
theorem eng_of {xs : List Int} {n d : Int} (h : engB xs = true) (h3 : engS xs = some (n, d)) : engN xs = n ∧ engD xs = d := by simp [engN, engD, h, h3]
/-- products of an Engel list: an expansion exactly if the sum is told -/
theorem eng_exp {xs ps : List Int} (hl : xs.length ≤ 24) (hu : up 0 2 xs = true) (h : prodL 1 xs = some ps) : expB ps = (sumL 0 1 ps).isSome := by
  have hr := prodL_rise (by omega) (fun x hx => (up_in (by omega) hu x hx).1) h
  have h1 : rise 1 1000000000 none ps = true := by
    cases ps with
    | nil => rfl
    | cons q qs =>
      unfold rise at hr ⊢
      simp only [Bool.and_eq_true, decide_eq_true_eq, and_true] at hr ⊢
      exact ⟨hr.1.1, hr.2⟩
  have h2 := prodL_len h
  simp [expB, h1, h2, hl]

/- Pierce lists -/
/-- sums and differences in turn from n / d on, of the unit fractions of numbers -/
def altL : Bool → Int → Int → List Int → Option (Int × Int)
  | _, n, d, [] => some (n, d)
  | true, n, d, t :: ts => if redB (n * t + d) (d * t) = true then altL false (redN (n * t + d) (d * t)) (redD (n * t + d) (d * t)) ts else none
  | false, n, d, t :: ts => if d ≤ n * t ∧ redB (n * t - d) (d * t) = true then altL true (redN (n * t - d) (d * t)) (redD (n * t - d) (d * t)) ts else none
theorem altL_add {n d t : Int} {ts : List Int} (h : redB (n * t + d) (d * t) = true) : altL true n d (t :: ts) = altL false (redN (n * t + d) (d * t)) (redD (n * t + d) (d * t)) ts := by simp [altL, h]
theorem altL_add_no {n d t : Int} {ts : List Int} (h : redB (n * t + d) (d * t) = false) : altL true n d (t :: ts) = none := by simp [altL, h]
theorem altL_sub {n d t : Int} {ts : List Int} (hl : d ≤ n * t) (h : redB (n * t - d) (d * t) = true) : altL false n d (t :: ts) = altL true (redN (n * t - d) (d * t)) (redD (n * t - d) (d * t)) ts := by simp [altL, h, hl]
theorem altL_sub_no {n d t : Int} {ts : List Int} (h : d ≤ n * t → redB (n * t - d) (d * t) = false) : altL false n d (t :: ts) = none := by
  simp only [altL]
  rw [if_neg]
  intro hh
  rw [h hh.1] at hh
  cases hh.2
/-- the last number is one more than that before it -/
def nextB : List Int → Bool
  | [] => false
  | [_] => false
  | [x, y] => decide (y = x + 1)
  | _ :: y :: z :: zs => nextB (y :: z :: zs)
def pieS (xs : List Int) : Option (Int × Int) := (prodL 1 xs).bind (altL true 0 1)
def pieB (xs : List Int) : Bool := decide (xs.length ≤ 24) && up 1 1 xs && !nextB xs && (pieS xs).isSome
def pieN (xs : List Int) : Int := if pieB xs = true then ((pieS xs).getD (0, 0)).1 else 0
def pieD (xs : List Int) : Int := if pieB xs = true then ((pieS xs).getD (0, 0)).2 else 0
theorem pieB_long {xs : List Int} (h : ¬ xs.length ≤ 24) : pieB xs = false := by simp [pieB, h]
theorem pieB_up {xs : List Int} (h : up 1 1 xs = false) : pieB xs = false := by simp [pieB, h]
theorem pieB_next {xs : List Int} (h : nextB xs = true) : pieB xs = false := by simp [pieB, h]
theorem pieB_none {xs : List Int} (h : pieS xs = none) : pieB xs = false := by simp [pieB, h]
theorem pieB_yes {xs : List Int} {n d : Int} (h1 : xs.length ≤ 24) (h2 : up 1 1 xs = true) (h4 : nextB xs = false) (h3 : pieS xs = some (n, d)) : pieB xs = true := by simp [pieB, h1, h2, h3, h4]
theorem pieB_parts {xs : List Int} (h : pieB xs = true) : xs.length ≤ 24 ∧ up 1 1 xs = true ∧ nextB xs = false ∧ pieS xs = some (pieN xs, pieD xs) := by
  have h0 := h
  simp only [pieB, Bool.and_eq_true, decide_eq_true_eq, Bool.not_eq_true'] at h
  refine ⟨h.1.1.1, h.1.1.2, h.1.2, ?_⟩
  cases hs : pieS xs with
  | none => rw [hs] at h; cases h.2
  | some p => simp [pieN, pieD, hs, h0]
theorem pie_no {xs : List Int} (h : pieB xs = false) : pieN xs = 0 ∧ pieD xs = 0 := by simp [pieN, pieD, h]
theorem pie_of {xs : List Int} {n d : Int} (h : pieB xs = true) (h3 : pieS xs = some (n, d)) : pieN xs = n ∧ pieD xs = d := by simp [pieN, pieD, h, h3]
theorem nextB_short {xs : List Int} (h : xs.length ≤ 1) : nextB xs = false := by
  match xs, h with
  | [], _ => rfl
  | [_], _ => rfl
theorem nextB_last : ∀ {xs : List Int} {k : Nat} {x y : Int}, xs.length = k + 2 → xs[k]? = some x → xs[k + 1]? = some y → nextB xs = decide (y = x + 1)
  | [a, b], k, x, y, hl, hx, hy => by
    simp at hl
    subst hl
    simp at hx hy
    subst hx hy
    rfl
  | a :: b :: c :: zs, k, x, y, hl, hx, hy => by
    match k, hl, hx, hy with
    | 0, hl, _, _ => simp at hl
    | k + 1, hl, hx, hy => exact nextB_last (xs := b :: c :: zs) (k := k) (by simpa using hl) (by simpa using hx) (by simpa using hy)
  | [], k, x, y, hl, _, _ => by simp at hl
  | [_], k, x, y, hl, _, _ => by simp at hl

/- growth -/
def growsL : List Int → Bool
  | x :: y :: ys => decide (x * (x - 1) < y) && growsL (y :: ys)
  | _ => true
theorem growsL_short {xs : List Int} (h : xs.length ≤ 1) : growsL xs = true := by
  match xs, h with
  | [], _ => rfl
  | [_], _ => rfl
theorem growsL_step {xs : List Int} {k : Nat} {x y : Int} (hx : xs[k]? = some x) (hy : xs[k + 1]? = some y) : growsL (xs.drop k) = (decide (x * (x - 1) < y) && growsL (xs.drop (k + 1))) := by
  rw [drop_at hx, drop_at hy, growsL]
end Go.Proofs.YtbjblkfibinenadGreat
