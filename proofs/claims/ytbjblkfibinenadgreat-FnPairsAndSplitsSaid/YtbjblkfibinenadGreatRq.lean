
/-
  Plain facts on fractions and sums of unit fractions as rational numbers.
-/
import Derived.Test.YtbjblkfibinenadGreatIfExp
namespace Go.Proofs.YtbjblkfibinenadGreat
open Go.RowKit
def rq (n d : Int) : Rat := (n : Rat) / (d : Rat)
def sumQ : List Int → Rat
  | [] => 0
  | x :: xs => 1 / (x : Rat) + sumQ xs
theorem ne0 {d : Int} (h : 1 ≤ d) : (d : Rat) ≠ 0 := by
  have : d ≠ 0 := by omega
  exact_mod_cast this
theorem rq_eq {n d m e : Int} (hd : 1 ≤ d) (he : 1 ≤ e) (h : n * e = m * d) : rq n d = rq m e := by
  have h1 := ne0 hd
  have h2 := ne0 he
  have h3 : (n : Rat) * e = m * d := by exact_mod_cast congrArg (fun x : Int => (x : Rat)) h
  unfold rq
  grind
theorem eq_rq {n d m e : Int} (hd : 1 ≤ d) (he : 1 ≤ e) (h : rq n d = rq m e) : n * e = m * d := by
  have h1 := ne0 hd
  have h2 := ne0 he
  unfold rq at h
  have h3 : (n : Rat) * e = m * d := by grind
  exact_mod_cast h3
theorem red_q {n d : Int} (hd : 1 ≤ d) : rq (n / gcdI n d) (d / gcdI n d) = rq n d := by
  have hg := gcdI_pos n d (by omega)
  have h2 := div_pos1 hd (by omega : 1 ≤ gcdI n d) (gcdI_dvdR n d)
  refine rq_eq h2 hd ?_
  obtain ⟨a, ha⟩ := gcdI_dvdL n d
  obtain ⟨b, hb⟩ := gcdI_dvdR n d
  generalize gcdI n d = g at *
  subst ha hb
  rw [Int.mul_ediv_cancel_left _ (by omega), Int.mul_ediv_cancel_left _ (by omega)]
  grind
theorem redN_q {n d : Int} (hd : 1 ≤ d) (h : redB n d = true) : rq (redN n d) (redD n d) = rq n d := by
  rw [redN, redD, if_pos h, if_pos h, red_q hd]
theorem dvd_cop {k m n : Int} (h : gcdI m k = 1) (hd : k ∣ m * n) : k ∣ n := by
  rw [← Int.natAbs_dvd_natAbs] at *
  rw [Int.natAbs_mul] at hd
  refine Nat.Coprime.dvd_of_dvd_mul_left ?_ hd
  unfold gcdI at h
  have : Int.gcd m k = 1 := by omega
  rw [Nat.Coprime, Nat.gcd_comm]
  exact this
/-- fractions in lowest terms that are the same number are the same pair -/
theorem good_same {n d m e : Int} (h : goodB n d = true) (h2 : goodB m e = true) (hq : rq n d = rq m e) : n = m ∧ d = e := by
  obtain ⟨n0, _, d1, _, g1⟩ := (goodB_iff n d).1 h
  obtain ⟨m0, _, e1, _, g2⟩ := (goodB_iff m e).1 h2
  have hx := eq_rq d1 e1 hq
  have a : d ∣ e := by
    have : d ∣ n * e := by rw [hx]; exact ⟨m, Int.mul_comm _ _⟩
    exact dvd_cop g1 this
  have b : e ∣ d := by
    have : e ∣ m * d := by rw [← hx]; exact ⟨n, Int.mul_comm _ _⟩
    exact dvd_cop g2 this
  have hde : d = e := by
    have := Int.le_of_dvd (by omega) a
    have := Int.le_of_dvd (by omega) b
    omega
  subst hde
  exact ⟨Int.eq_of_mul_eq_mul_right (by omega) hx, rfl⟩
theorem sumL_q : ∀ {xs : List Int} {n d n' d' : Int}, 1 ≤ d → (∀ x ∈ xs, 1 ≤ x) → sumL n d xs = some (n', d') → rq n' d' = rq n d + sumQ xs ∧ 1 ≤ d'
  | [], n, d, n', d', hd, _, h => by
    simp only [sumL, Option.some.injEq, Prod.mk.injEq] at h
    obtain ⟨rfl, rfl⟩ := h
    exact ⟨by simp only [sumQ]; grind, hd⟩
  | t :: ts, n, d, n', d', hd, hx, h => by
    have ht := hx t (by simp)
    have p := mul_pos1 hd ht
    cases hr : redB (n * t + d) (d * t) with
    | false => rw [sumL_no hr] at h; cases h
    | true =>
      rw [sumL_yes hr] at h
      have h1 : 1 ≤ redD (n * t + d) (d * t) := by
        rw [redD, if_pos hr]
        exact div_pos1 p (gcdI_pos _ _ (by omega)) (gcdI_dvdR _ _)
      obtain ⟨e, hd'⟩ := sumL_q h1 (fun x hx' => hx x (by simp [hx'])) h
      refine ⟨?_, hd'⟩
      rw [e, redN_q p hr]
      have a1 := ne0 hd
      have a2 := ne0 ht
      unfold rq
      simp only [sumQ, Rat.intCast_add, Rat.intCast_mul]
      grind
theorem sum_q {xs : List Int} (h : expB xs = true) : rq (sumN xs) (sumD xs) = sumQ xs := by
  have hp := expB_parts h
  have := (sumL_q (by omega) (fun x hx => (expB_small h x hx).1) hp.2.2).1
  rw [this]
  unfold rq
  simp only [Rat.intCast_zero, Rat.intCast_one]
  grind
theorem sumQ_append (xs ys : List Int) : sumQ (xs ++ ys) = sumQ xs + sumQ ys := by
  induction xs with
  | nil => show sumQ ys = 0 + sumQ ys; grind
  | cons x xs ih => simp only [List.cons_append, sumQ, ih]; grind
theorem sumQ_nonneg {xs : List Int} (h : ∀ x ∈ xs, 1 ≤ x) : 0 ≤ sumQ xs := by
  induction xs with
  | nil => simp [sumQ]
  | cons x xs ih =>
    have h1 := ih (fun y hy => h y (by simp [hy]))
    have h2 : (0 : Rat) < x := by exact_mod_cast (by have := h x (by simp); omega : 0 < x)
    have h3 : 0 < 1 / (x : Rat) := by rw [Rat.div_def]; have := Rat.inv_pos.2 h2; grind
    simp only [sumQ]
    grind
theorem le_rq {n d m e : Int} (hd : 1 ≤ d) (he : 1 ≤ e) (h : rq n d ≤ rq m e) : n * e ≤ m * d := by
  have h1 := ne0 hd
  have h2 := ne0 he
  have p1 : (0 : Rat) < d := by exact_mod_cast (by omega : 0 < d)
  have p2 : (0 : Rat) < e := by exact_mod_cast (by omega : 0 < e)
  have p := Rat.le_of_lt (Rat.mul_pos p1 p2)
  have q := Rat.mul_le_mul_of_nonneg_right h p
  unfold rq at q
  have a : (n : Rat) / d * (d * e) = n * e := by grind
  have b : (m : Rat) / e * (d * e) = m * d := by grind
  rw [a, b] at q
  exact_mod_cast q
end Go.Proofs.YtbjblkfibinenadGreat
