
/-
  Plain facts on sums and differences, products and quotients that undo each other, and on whole numbers next to a fraction.
-/
import Derived.Test.YtfcklhppemidhaaRat
namespace Go.Proofs.Ytfcklhppemidhaa
open Go.RowKit
theorem cop_same {a b n d : Int} (h1 : gcdI a b = 1) (h2 : gcdI n d = 1) (hb : 1 ≤ b) (hd : 1 ≤ d) (hx : a * d = n * b) : a = n ∧ b = d := by
  have p : b ∣ d := dvd_cop h1 ⟨n, by rw [hx, Int.mul_comm]⟩
  have q : d ∣ b := dvd_cop h2 ⟨a, by rw [← hx, Int.mul_comm]⟩
  have e : b = d := by
    have := Int.le_of_dvd (by omega) p
    have := Int.le_of_dvd (by omega) q
    omega
  subst e
  exact ⟨Int.eq_of_mul_eq_mul_right (by omega) hx, rfl⟩
theorem red_parts {x y : Int} (hy : 1 ≤ y) : x / gcdI x y * y = x * (y / gcdI x y) := by
  obtain ⟨a, ha⟩ := gcdI_dvdL x y
  obtain ⟨b, hb⟩ := gcdI_dvdR x y
  have hg := gcdI_pos x y (by omega)
  generalize gcdI x y = g at *
  subst ha hb
  rw [Int.mul_ediv_cancel_left _ (by omega), Int.mul_ediv_cancel_left _ (by omega)]
  grind
theorem red_eq {x y : Int} (hy : 1 ≤ y) (h : redB x y = true) : redN x y * y = x * redD x y := by
  rw [redN, redD, if_pos h, if_pos h]
  exact red_parts hy
theorem red_is {x y n d : Int} (hy : 1 ≤ y) (hg : goodB n d = true) (hx : x * d = n * y) : redB x y = true ∧ redN x y = n ∧ redD x y = d := by
  obtain ⟨n1, n2, d1, d2, g1⟩ := (goodB_iff n d).1 hg
  have h1 := red_parts (x := x) hy
  have h2 := div_pos1 hy (gcdI_pos x y (by omega)) (gcdI_dvdR x y)
  have h3 : x / gcdI x y * d = n * (y / gcdI x y) := by
    refine Int.eq_of_mul_eq_mul_right (a := y) (by omega) ?_
    have : x / gcdI x y * d * y = x / gcdI x y * y * d := by grind
    rw [this, h1]
    have : x * (y / gcdI x y) * d = x * d * (y / gcdI x y) := by grind
    rw [this, hx]
    grind
  obtain ⟨e1, e2⟩ := cop_same (gcdI_red hy) g1 h2 d1 h3
  have hr : redB x y = true := redB_yes (by omega) (by omega)
  exact ⟨hr, by rw [redN, if_pos hr, e1], by rw [redD, if_pos hr, e2]⟩
theorem back_sub {n d m e : Int} (ha : goodB n d = true) (hb : goodB m e = true) (h : redB (n * e + m * d) (d * e) = true) :
    goodB (redN (n * e + m * d) (d * e)) (redD (n * e + m * d) (d * e)) = true ∧ m * redD (n * e + m * d) (d * e) ≤ redN (n * e + m * d) (d * e) * e ∧
      redB (redN (n * e + m * d) (d * e) * e - m * redD (n * e + m * d) (d * e)) (redD (n * e + m * d) (d * e) * e) = true ∧
      redN (redN (n * e + m * d) (d * e) * e - m * redD (n * e + m * d) (d * e)) (redD (n * e + m * d) (d * e) * e) = n ∧
      redD (redN (n * e + m * d) (d * e) * e - m * redD (n * e + m * d) (d * e)) (redD (n * e + m * d) (d * e) * e) = d := by
  obtain ⟨n1, n2, d1, d2⟩ := good_bounds ha
  obtain ⟨m1, m2, e1, e2⟩ := good_bounds hb
  have p := mul_pos1 d1 e1
  have q1 := mul_bounds n1 n2 (by omega : 0 ≤ e) e2
  have q2 := mul_bounds m1 m2 (by omega : 0 ≤ d) d2
  have hg := good_of_redB (by omega) p h
  have hx := red_eq p h
  obtain ⟨s1, s2, t1, t2⟩ := good_bounds hg
  generalize redN (n * e + m * d) (d * e) = s at *
  generalize redD (n * e + m * d) (d * e) = t at *
  have hk : (s * e - m * t) * d = n * (t * e) := by grind
  have ht := mul_pos1 t1 e1
  obtain ⟨r1, r2, r3⟩ := red_is ht ha hk
  refine ⟨hg, ?_, r1, r2, r3⟩
  have hn := Int.mul_nonneg n1 (by omega : 0 ≤ t * e)
  rw [← hk] at hn
  have := Int.nonneg_of_mul_nonneg_left hn (by omega)
  omega
theorem back_div {n d m e : Int} (ha : goodB n d = true) (hb : goodB m e = true) (hm : 1 ≤ m) (h : redB (n * m) (d * e) = true) :
    goodB (redN (n * m) (d * e)) (redD (n * m) (d * e)) = true ∧
      redB (redN (n * m) (d * e) * e) (redD (n * m) (d * e) * m) = true ∧ redN (redN (n * m) (d * e) * e) (redD (n * m) (d * e) * m) = n ∧ redD (redN (n * m) (d * e) * e) (redD (n * m) (d * e) * m) = d := by
  obtain ⟨n1, n2, d1, d2⟩ := good_bounds ha
  obtain ⟨m1, m2, e1, e2⟩ := good_bounds hb
  have p := mul_pos1 d1 e1
  have q1 := mul_bounds n1 n2 m1 m2
  have hg := good_of_redB (by omega) p h
  have hx := red_eq p h
  obtain ⟨s1, s2, t1, t2⟩ := good_bounds hg
  generalize redN (n * m) (d * e) = s at *
  generalize redD (n * m) (d * e) = t at *
  have hk : s * e * d = n * (t * m) := by grind
  exact ⟨hg, red_is (mul_pos1 t1 hm) ha hk⟩
theorem diff_zero {x y : Int} (hy : 1 ≤ y) (h : redB x y = true) : (redN x y == 0) = decide (x = 0) := by
  have hx := red_eq hy h
  have hd : 1 ≤ redD x y := by
    rw [redD, if_pos h]
    exact div_pos1 hy (gcdI_pos x y (by omega)) (gcdI_dvdR x y)
  rw [Bool.eq_iff_iff, beq_iff_eq, decide_eq_true_iff]
  constructor
  · intro h0
    rw [h0, Int.zero_mul] at hx
    rcases Int.mul_eq_zero.1 hx.symm with h1 | h1 <;> omega
  · intro h0
    rw [h0, Int.zero_mul] at hx
    rcases Int.mul_eq_zero.1 hx with h1 | h1
    · rw [h0]; exact h1
    · omega
theorem whole_parts {n d : Int} (ha : goodB n d = true) : n / d * d ≤ n ∧ n ≤ (n + d - 1) / d * d ∧ (n + d - 1) / d - n / d ≤ 1 ∧ ((n + d - 1) / d == n / d) = (d == 1) ∧ 0 ≤ n / d ∧ n / d ≤ 1000000000 ∧ 0 ≤ (n + d - 1) / d ∧ (n + d - 1) / d ≤ 1000000001 ∧ 0 ≤ n / d * d ∧ (n + d - 1) / d * d ≤ 2000000000 := by
  obtain ⟨n1, n2, d1, d2, g⟩ := (goodB_iff n d).1 ha
  have h1 := Int.mul_ediv_add_emod n d
  have h2 := Int.emod_nonneg n (by omega : d ≠ 0)
  have h3 := Int.emod_lt_of_pos n (by omega : 0 < d)
  have h4 := Int.mul_ediv_add_emod (n + d - 1) d
  have h5 := Int.emod_nonneg (n + d - 1) (by omega : d ≠ 0)
  have h6 := Int.emod_lt_of_pos (n + d - 1) (by omega : 0 < d)
  have h7 := Int.ediv_nonneg n1 (by omega : 0 ≤ d)
  have h8 := Int.ediv_le_self d n1
  have h9 := Int.ediv_nonneg (by omega : 0 ≤ n + d - 1) (by omega : 0 ≤ d)
  have hz : n % d = 0 → d = 1 := fun h0 => by
    have : gcdI n d = d := by
      have hd : d ∣ n := Int.dvd_of_emod_eq_zero h0
      unfold gcdI
      have := Int.gcd_eq_right (a := n) (b := d) (by omega) hd
      omega
    omega
  have c1 : n / d * d = d * (n / d) := Int.mul_comm _ _
  have c2 : (n + d - 1) / d * d = d * ((n + d - 1) / d) := Int.mul_comm _ _
  generalize n / d = q at *
  generalize (n + d - 1) / d = r at *
  generalize n % d = u at *
  generalize (n + d - 1) % d = v at *
  have k1 : r - q ≤ 1 := by
    rcases Int.lt_or_le 1 (r - q) with h | h
    · have := Int.mul_le_mul_of_nonneg_left (by omega : q + 2 ≤ r) (by omega : 0 ≤ d)
      rw [Int.mul_add] at this
      omega
    · exact h
  have k2 : q ≤ r := by
    rcases Int.lt_or_le r q with h | h
    · have := Int.mul_le_mul_of_nonneg_left (by omega : r + 1 ≤ q) (by omega : 0 ≤ d)
      rw [Int.mul_add] at this
      omega
    · exact h
  have k3 : 0 ≤ d * q := Int.mul_nonneg (by omega) h7
  refine ⟨by omega, by omega, k1, ?_, h7, by omega, h9, by omega, by omega, by omega⟩
  rw [Bool.eq_iff_iff, beq_iff_eq, beq_iff_eq]
  constructor
  · intro h
    rw [h] at h4
    exact hz (by omega)
  · intro h
    subst h
    omega
theorem cmpI_zero {x y : Int} (h : y ≤ x) : (cmpI x y == 0) = decide (x - y = 0) := by
  unfold cmpI
  rw [if_neg (by omega), Bool.eq_iff_iff, beq_iff_eq, decide_eq_true_iff]
  split <;> omega
end Go.Proofs.Ytfcklhppemidhaa
