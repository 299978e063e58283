import Derived.Test.YtbjblkfibinenadGreatDoorPk9
import Derived.Test.YtbjblkfibinenadGreatDoorPk10

/-
  Plain facts on inverses: what the rounds of the algorithm keep, the only inverse, and the step of the method by inverses.
-/
namespace Go.Proofs.YtbjblkfibinenadGreatDoor
open Go.RowKit
/-- s is the inverse of p for q -/
def IsInv (p q s : Int) : Prop := 1 ≤ s ∧ s < q ∧ q ∣ p * s - 1
theorem IsInv.unique {p q s t : Int} (h : IsInv p q s) (k : IsInv p q t) : s = t := by
  obtain ⟨h1, h2, a, ha⟩ := h
  obtain ⟨k1, k2, b, hb⟩ := k
  have e0 : t * (p * s - 1) - s * (p * t - 1) = s - t := by grind
  have e : s - t = q * (t * a - s * b) := by rw [← e0, ha, hb]; grind
  have e2 : t - s = q * (s * b - t * a) := by grind
  rcases Int.le_total t s with hle | hle
  · have h3 := Int.emod_eq_of_lt (a := s - t) (b := q) (by omega) (by omega)
    rw [e, Int.mul_emod_right] at h3
    omega
  · have h3 := Int.emod_eq_of_lt (a := t - s) (b := q) (by omega) (by omega)
    rw [e2, Int.mul_emod_right] at h3
    omega
/-- the inverse of p for q, or 0 -/
def invI (p q : Int) : Int := (((List.range q.toNat).find? fun s : Nat => decide (1 ≤ s) && decide ((p * (s : Int) - 1) % q = 0)).map fun s : Nat => (s : Int)).getD 0
theorem invI_eq {p q s : Int} (h : IsInv p q s) : invI p q = s := by
  unfold invI
  cases hf : (List.range q.toNat).find? (fun s : Nat => decide (1 ≤ s) && decide ((p * (s : Int) - 1) % q = 0)) with
  | none =>
    rw [List.find?_eq_none] at hf
    have := hf s.toNat (by rw [List.mem_range]; have := h.1; have := h.2.1; omega)
    have hs : ((s.toNat : Nat) : Int) = s := by have := h.1; omega
    rw [hs] at this
    have h3 := Int.emod_eq_zero_of_dvd h.2.2
    have h1 : 1 ≤ s.toNat := by have := h.1; omega
    simp [h3, h1] at this
  | some k =>
    have h1 := List.find?_some hf
    have h2 := List.mem_of_find?_eq_some hf
    rw [List.mem_range] at h2
    simp only [Bool.and_eq_true, decide_eq_true_eq] at h1
    have hk : IsInv p q k := ⟨by omega, by omega, Int.dvd_of_emod_eq_zero h1.2⟩
    simpa using hk.unique h
/-- what the rounds keep: q divides p x - m and p y - l, and no number grows above q -/
structure Euc (p q m l x y : Int) : Prop where
  m1 : 1 ≤ m
  l0 : 0 ≤ l
  m2 : m ≤ 1000000000
  l2 : l ≤ 1000000000
  g : gcdI m l = gcdI p q
  dx : q ∣ p * x - m
  dy : q ∣ p * y - l
  ab : ∃ a b, 0 ≤ a ∧ a ≤ q ∧ 0 ≤ b ∧ m * b + l * a = q ∧ ((x = a ∧ y = -b) ∨ (x = -a ∧ y = b))
theorem gcdI_comm (a b : Int) : gcdI a b = gcdI b a := by unfold gcdI; rw [Int.gcd_comm]
theorem Euc.start {p q : Int} (hp : 1 ≤ p) (hp2 : p ≤ 1000000000) (hq : 2 ≤ q) (hq2 : q ≤ 1000000000) : Euc p q q p 0 1 := by
  refine ⟨by omega, by omega, hq2, hp2, gcdI_comm _ _, ⟨-1, by omega⟩, ⟨0, by omega⟩, 0, 1, by omega, by omega, by omega, by omega, .inr ⟨by omega, rfl⟩⟩
theorem Euc.startR {p q : Int} (hp : 1 ≤ p) (hp2 : p ≤ 1000000000) (hq : 2 ≤ q) (hq2 : q ≤ 1000000000) (hr : 1 ≤ p % q) : Euc p q (p % q) q 1 0 := by
  have h2 := Int.emod_lt_of_pos p (by omega : 0 < q)
  refine ⟨hr, by omega, by omega, hq2, ?_, ⟨p / q, ?_⟩, ⟨-1, by omega⟩, 1, 0, by omega, by omega, by omega, by omega, .inl ⟨rfl, rfl⟩⟩
  · rw [gcdI_comm, gcdI_step p q (by omega) (by omega)]
  · have := Int.mul_ediv_add_emod p q
    omega
section
variable {p q m l x y : Int}
theorem Euc.step (h : Euc p q m l x y) (hl : 1 ≤ l) : Euc p q l (m - m / l * l) y (x - m / l * y) := by
  obtain ⟨m1, l0, m2, l2, g, ⟨u, hu⟩, ⟨v, hv⟩, a, b, ha, ha2, hb, hab, hs⟩ := h
  have e1 : m - m / l * l = m % l := by
    have := Int.mul_ediv_add_emod m l
    have h2 : m / l * l = l * (m / l) := Int.mul_comm _ _
    omega
  have r1 := Int.emod_nonneg m (by omega : l ≠ 0)
  have r2 := Int.emod_lt_of_pos m (by omega : 0 < l)
  have k0 : 0 ≤ m / l := Int.ediv_nonneg (by omega) (by omega)
  have hbq : b ≤ q := by
    have h1 : 1 * b ≤ m * b := Int.mul_le_mul_of_nonneg_right m1 hb
    have h2 : 0 ≤ l * a := Int.mul_nonneg l0 ha
    omega
  refine ⟨hl, by omega, by omega, by omega, ?_, ⟨v, hv⟩, ⟨u - m / l * v, ?_⟩, b, a + m / l * b, hb, hbq, ?_, ?_, ?_⟩
  · rw [e1, gcdI_step m l (by omega) l0]; exact g
  · generalize m / l = k at *
    have : p * (x - k * y) - (m - k * l) = (p * x - m) - k * (p * y - l) := by grind
    rw [this, hu, hv]; grind
  · have := Int.mul_nonneg k0 hb; omega
  · generalize m / l = k at *
    rw [← hab]; grind
  · rcases hs with ⟨rfl, rfl⟩ | ⟨rfl, rfl⟩
    · exact .inr ⟨rfl, by grind⟩
    · exact .inl ⟨rfl, by grind⟩
/-- no product on the way is great -/
theorem Euc.sizes (h : Euc p q m l x y) (hq : q ≤ 1000000000) (hl : 1 ≤ l) : 0 ≤ m / l ∧ m / l ≤ 1000000000 ∧ 0 ≤ m / l * l ∧ m / l * l ≤ m ∧ -1000000000 ≤ m / l * y ∧ m / l * y ≤ 1000000000 ∧ -1000000000 ≤ x - m / l * y ∧ x - m / l * y ≤ 1000000000 ∧ -1000000000 ≤ x ∧ x ≤ 1000000000 ∧ -1000000000 ≤ y ∧ y ≤ 1000000000 := by
  have h1 := h.step hl
  obtain ⟨m1, l0, m2, l2, g, _, _, a, b, ha, ha2, hb, hab, hs⟩ := h
  obtain ⟨_, n0, _, _, _, _, _, a', b', ha', ha2', hb', hab', hs'⟩ := h1
  have k0 : 0 ≤ m / l := Int.ediv_nonneg (by omega) (by omega)
  have kl : 0 ≤ m / l * l := Int.mul_nonneg k0 l0
  have km : m / l ≤ m := Int.ediv_le_self l (by omega)
  have hbq : b ≤ q := by
    have h1 : 1 * b ≤ m * b := Int.mul_le_mul_of_nonneg_right m1 hb
    have h2 : 0 ≤ l * a := Int.mul_nonneg l0 ha
    omega
  have hbq' : b' ≤ q := by
    have h1 : 1 * b' ≤ l * b' := Int.mul_le_mul_of_nonneg_right hl hb'
    have h2 : 0 ≤ (m - m / l * l) * a' := Int.mul_nonneg n0 ha'
    omega
  generalize m / l = k at *
  have hkb : 0 ≤ k * b := Int.mul_nonneg k0 hb
  rcases hs with ⟨rfl, rfl⟩ | ⟨rfl, rfl⟩ <;> rcases hs' with ⟨e1, e2⟩ | ⟨e1, e2⟩ <;> (try simp only [Int.mul_neg] at *) <;> refine ⟨by omega, by omega, by omega, by omega, by omega, by omega, by omega, by omega, by omega, by omega, by omega, by omega⟩
/-- behind the last round the greatest common divisor is left -/
theorem Euc.last (h : Euc p q m 0 x y) : m = gcdI p q := by rw [← h.g, gcdI_zero m (by have := h.m1; omega)]
theorem wrap_mod (hq : 1 ≤ q) : (x.tmod q + q).tmod q = x % q := by
  have h0 : x.tmod q = x - q * x.tdiv q := by have := Int.mul_tdiv_add_tmod x q; omega
  have h1 : -q < x.tmod q := Int.lt_tmod_of_pos x (by omega)
  rw [Int.tmod_eq_emod_of_nonneg (by omega), Int.add_emod_right, h0, Int.sub_mul_emod_self_left]
theorem wrap_mod2 (_ : 1 ≤ q) : x.tmod q % q = x % q := by
  have h0 : x.tmod q = x - q * x.tdiv q := by have := Int.mul_tdiv_add_tmod x q; omega
  rw [h0, Int.sub_mul_emod_self_left]
theorem Euc.inv (h : Euc p q 1 0 x y) (hq : 2 ≤ q) : IsInv p q (x % q) := by
  have r1 := Int.emod_nonneg x (by omega : q ≠ 0)
  have r2 := Int.emod_lt_of_pos x (by omega : 0 < q)
  have hd : q ∣ p * (x % q) - 1 := by
    obtain ⟨u, hu⟩ := h.dx
    refine ⟨u - p * (x / q), ?_⟩
    have e : x = q * (x / q) + x % q := (Int.mul_ediv_add_emod x q).symm
    generalize x / q = k at *
    generalize x % q = r at *
    subst e
    grind
  refine ⟨?_, r2, hd⟩
  rcases Int.lt_or_le 0 (x % q) with h0 | h0
  · omega
  · have e : x % q = 0 := by omega
    rw [e] at hd
    obtain ⟨u, hu⟩ := hd
    have h1 : q ∣ 1 := ⟨-u, by rw [Int.mul_neg]; omega⟩
    have := Int.le_of_dvd (by omega) h1
    omega
theorem Euc.ends : ∀ (k : Nat) {m l x y : Int}, l.toNat ≤ k → Euc p q m l x y → ∃ x' y', Euc p q (gcdI p q) 0 x' y'
  | 0, m, l, x, y, hk, h => by
    have hl : l = 0 := by have := h.l0; omega
    subst hl
    have := h.last
    subst this
    exact ⟨x, y, h⟩
  | k + 1, m, l, x, y, hk, h => by
    by_cases hl : l = 0
    · subst hl
      have := h.last
      subst this
      exact ⟨x, y, h⟩
    · have h1 := h.l0
      have h2 := h.step (by omega)
      refine Euc.ends k ?_ h2
      have e1 : m - m / l * l = m % l := by
        have := Int.mul_ediv_add_emod m l
        have h2 : m / l * l = l * (m / l) := Int.mul_comm _ _
        omega
      have r2 := Int.emod_lt_of_pos m (by omega : 0 < l)
      omega
end
theorem inv_is {p q : Int} (hp : 1 ≤ p) (hp2 : p ≤ 1000000000) (hq : 2 ≤ q) (hq2 : q ≤ 1000000000) (hg : gcdI p q = 1) : IsInv p q (invI p q) := by
  obtain ⟨x, y, h⟩ := Euc.ends _ (Nat.le_refl _) (Euc.start hp hp2 hq hq2)
  rw [hg] at h
  have := h.inv hq
  rw [invI_eq this]
  exact this
/-- whether there is one -/
def invB (p q : Int) : Bool := decide (1 ≤ p) && decide (p ≤ 1000000000) && decide (2 ≤ q) && decide (q ≤ 1000000000) && decide (gcdI p q = 1)
theorem invB_iff (p q : Int) : invB p q = true ↔ 1 ≤ p ∧ p ≤ 1000000000 ∧ 2 ≤ q ∧ q ≤ 1000000000 ∧ gcdI p q = 1 := by simp [invB, and_assoc]
theorem invB_not {p q : Int} (h : ¬ (1 ≤ p ∧ p ≤ 1000000000 ∧ 2 ≤ q ∧ q ≤ 1000000000 ∧ gcdI p q = 1)) : invB p q = false := by
  cases hb : invB p q with
  | false => rfl
  | true => exact absurd ((invB_iff p q).1 hb) h
def invR (p q : Int) : Int := if invB p q = true then invI p q else 0
/- the step of the method by inverses -/
def proB (n d : Int) : Bool := goodB n d && decide (1 ≤ n) && decide (n < d)
theorem proB_iff (n d : Int) : proB n d = true ↔ goodB n d = true ∧ 1 ≤ n ∧ n < d := by simp [proB, and_assoc]
theorem proB_not {n d : Int} (h : ¬ (goodB n d = true ∧ 1 ≤ n ∧ n < d)) : proB n d = false := by
  cases hb : proB n d with
  | false => rfl
  | true => exact absurd ((proB_iff n d).1 hb) h
def goT (n d : Int) : Int := if proB n d = true then d * invI n d else 0
def goN (n d : Int) : Int := if proB n d = true then (n * invI n d - 1) / d else 0
def goD (n d : Int) : Int := if proB n d = true then invI n d else 0
structure Gol (n d s r : Int) : Prop where
  s1 : 1 ≤ s
  sd : s < d
  e : n * s - 1 = d * r
  r0 : 0 ≤ r
  rn : r < n
  rs : r < s
  gd : goodB r s = true
  q : (n * s - 1) / d = r
theorem gol {n d : Int} (h : proB n d = true) : Gol n d (invI n d) ((n * invI n d - 1) / d) := by
  obtain ⟨hg, hn, hnd⟩ := (proB_iff n d).1 h
  obtain ⟨_, n2, _, d2, g1⟩ := (goodB_iff n d).1 hg
  obtain ⟨s1, sd, r, hr⟩ := inv_is hn n2 (by omega) d2 g1
  have hq : (n * invI n d - 1) / d = r := by rw [hr]; exact Int.mul_ediv_cancel_left r (by omega)
  rw [hq]
  generalize invI n d = s at *
  have r0 : 0 ≤ r := by
    have h1 : 1 ≤ n * s := mul_pos1 hn s1
    rcases Int.lt_or_le r 0 with h0 | h0
    · have : d * r ≤ d * (-1) := Int.mul_le_mul_of_nonneg_left (by omega) (by omega)
      omega
    · exact h0
  have rn : r < n := by
    rcases Int.lt_or_le r n with h0 | h0
    · exact h0
    · have h1 : d * n ≤ d * r := Int.mul_le_mul_of_nonneg_left h0 (by omega)
      have h2 : n * s ≤ n * d := Int.mul_le_mul_of_nonneg_left (by omega) (by omega)
      have h3 : d * n = n * d := Int.mul_comm _ _
      omega
  have rs : r < s := by
    rcases Int.lt_or_le r s with h0 | h0
    · exact h0
    · have h1 : d * s ≤ d * r := Int.mul_le_mul_of_nonneg_left h0 (by omega)
      have h2 : n * s ≤ d * s := Int.mul_le_mul_of_nonneg_right (by omega) (by omega)
      omega
  refine ⟨s1, sd, hr, r0, rn, rs, ?_, hq⟩
  refine (goodB_iff r s).2 ⟨r0, by omega, s1, by omega, ?_⟩
  have h1 := gcdI_pos r s (by omega)
  obtain ⟨a, ha⟩ := gcdI_dvdL r s
  obtain ⟨b, hb⟩ := gcdI_dvdR r s
  have h2 : gcdI r s ∣ 1 := ⟨n * b - d * a, by
    generalize gcdI r s = g at *
    subst ha hb
    grind⟩
  have := Int.le_of_dvd (by omega) h2
  omega
theorem gol_one {d : Int} (h : proB 1 d = true) : invI 1 d = 1 := by
  obtain ⟨_, _, hd⟩ := (proB_iff 1 d).1 h
  exact invI_eq ⟨by omega, hd, 0, by omega⟩
theorem goR {n d : Int} (h : proB n d = true) : goT n d = d * invI n d ∧ goN n d = (n * invI n d - 1) / d ∧ goD n d = invI n d := ⟨if_pos h, if_pos h, if_pos h⟩
theorem goR_no {n d : Int} (h : proB n d = false) : goT n d = 0 ∧ goN n d = 0 ∧ goD n d = 0 := by
  refine ⟨?_, ?_, ?_⟩ <;> simp [goT, goN, goD, h]
/-- a pair in lowest terms stays as it is -/
theorem red_good {n d : Int} (h : goodB n d = true) : redB n d = true ∧ redN n d = n ∧ redD n d = d ∧ n / gcdI n d = n ∧ d / gcdI n d = d := by
  obtain ⟨h0, h1, h2, h3, h4⟩ := (goodB_iff n d).1 h
  obtain ⟨e1, e2⟩ := red_one h4
  have hb : redB n d = true := redB_yes (by rw [e1]; exact h1) (by rw [e2]; exact h3)
  exact ⟨hb, by rw [redN, if_pos hb, e1], by rw [redD, if_pos hb, e2], e1, e2⟩
/- the steps, one after the other -/
def stI : Stp := fun _ n d => if proB n d = true then some (goT n d, goN n d, goD n d) else none
theorem stI_yes {l n d : Int} (h : proB n d = true) : stI l n d = some (goT n d, goN n d, goD n d) := if_pos h
theorem stI_no {l n d : Int} (h : proB n d = false) : stI l n d = none := if_neg (by rw [h]; simp)
end Go.Proofs.YtbjblkfibinenadGreatDoor


/-
  Contracts of the test of fractions that methods require.
-/
namespace Go.Proofs.YtbjblkfibinenadGreatDoor
open Go.RowKit
theorem RetQ.ret {v : Value} {w : World} {e : Ending} {w' : World} (h : RetQ v w e w') : Ret v w e w' := by
  obtain ⟨h1, n, rfl⟩ := h
  exact ⟨h1, belowDrewN (Below.refl _ _) n⟩
theorem isProper_any (n d : Int) (w : World) (rn : -9223372036854775808 ≤ n ∧ n ≤ 9223372036854775807) (rd : -9223372036854775808 ≤ d ∧ d ≤ 9223372036854775807) : Calls Tryz.prog 24 #[.agg #[.int .i64 n, .int .i64 d]] w (Ret (.bool (proB n d)) w) := by
  cases hb : belowB n d with
  | false =>
    have E : Hid (proB n d = false) := Lib.hid (proB_not fun h => by rw [belowB, h.1, decide_eq_true h.2.2] at hb; cases hb)
    go_enter Tryz.func24, Tryz.ntmps24
    go_wp2_with fail
    refine (isBelowOne_any _ _ _ rn rd).mono ?_; rintro e w1 ⟨rfl, hb1⟩; obtain ⟨hc1, hf1⟩ := bcellB hb1; have hz1 := hb1.size; (try simp only [World.size_alloc] at hc1 hf1 hz1); (try have hy1_r_0 : wr.heap.size < w1.heap.size := by omega); (try have hn1_r_0 : wr.heap.size ≠ w1.heap.size := by omega); (try have hm1_r_0 : w1.heap.size ≠ wr.heap.size := by omega); (try have hy1_r_1 : wr.heap.size + 1 < w1.heap.size := by omega); (try have hn1_r_1 : wr.heap.size + 1 ≠ w1.heap.size := by omega); (try have hm1_r_1 : w1.heap.size ≠ wr.heap.size + 1 := by omega); (try have hy1_r_2 : wr.heap.size + 1 + 1 < w1.heap.size := by omega); (try have hp1_r_1 : wr.heap.size < w1.heap.size + 1 := by omega); (try have hp1_r_2 : wr.heap.size < w1.heap.size + 1 + 1 := by omega); (try have hy1_0_0 : w.heap.size < w1.heap.size := by omega); (try have hn1_0_0 : w.heap.size ≠ w1.heap.size := by omega); (try have hm1_0_0 : w1.heap.size ≠ w.heap.size := by omega); (try have hy1_0_1 : w.heap.size + 1 < w1.heap.size := by omega); (try have hn1_0_1 : w.heap.size + 1 ≠ w1.heap.size := by omega); (try have hm1_0_1 : w1.heap.size ≠ w.heap.size + 1 := by omega); (try have hy1_0_2 : w.heap.size + 1 + 1 < w1.heap.size := by omega); (try have hp1_0_1 : w.heap.size < w1.heap.size + 1 := by omega); (try have hp1_0_2 : w.heap.size < w1.heap.size + 1 + 1 := by omega); (try have hg1_g1 : g1 < w1.heap.size := by omega); (try have hi1_g1 : g1 ≠ w1.heap.size := by omega); (try have hj1_g1 : w1.heap.size ≠ g1 := by omega); (try have hk1_g1 : g1 < w1.heap.size + 1 := by omega); (try have hg1_g2 : g2 < w1.heap.size := by omega); (try have hi1_g2 : g2 ≠ w1.heap.size := by omega); (try have hj1_g2 : w1.heap.size ≠ g2 := by omega); (try have hk1_g2 : g2 < w1.heap.size + 1 := by omega)
    rw [hb]
    go_wp2
    go_returns
    exact ⟨ret_bool E.out.symm, by (repeat' (first | (with_reducible exact Below.refl _ _) | (with_reducible assumption) | (with_reducible refine Below.drew ?_) | (with_reducible refine belowDrewN ?_ _) | (with_reducible refine Below.alloc ?_ ?_ _) | (with_reducible refine Below.setCell ?_ ?_ _) | (with_reducible refine belowStep (by assumption) ?_ ?_) | (with_reducible exact Below.size (by assumption)) | go_size))⟩
  | true =>
    have E : Hid (proB n d = decide (0 < n)) := Lib.hid (by
      obtain ⟨h1, h2⟩ := belowB_yes hb
      rw [proB, h1, decide_eq_true h2, Bool.true_and, Bool.and_true]
      rfl)
    go_enter Tryz.func24, Tryz.ntmps24
    go_wp2_with fail
    refine (isBelowOne_any _ _ _ rn rd).mono ?_; rintro e w1 ⟨rfl, hb1⟩; obtain ⟨hc1, hf1⟩ := bcellB hb1; have hz1 := hb1.size; (try simp only [World.size_alloc] at hc1 hf1 hz1); (try have hy1_r_0 : wr.heap.size < w1.heap.size := by omega); (try have hn1_r_0 : wr.heap.size ≠ w1.heap.size := by omega); (try have hm1_r_0 : w1.heap.size ≠ wr.heap.size := by omega); (try have hy1_r_1 : wr.heap.size + 1 < w1.heap.size := by omega); (try have hn1_r_1 : wr.heap.size + 1 ≠ w1.heap.size := by omega); (try have hm1_r_1 : w1.heap.size ≠ wr.heap.size + 1 := by omega); (try have hy1_r_2 : wr.heap.size + 1 + 1 < w1.heap.size := by omega); (try have hp1_r_1 : wr.heap.size < w1.heap.size + 1 := by omega); (try have hp1_r_2 : wr.heap.size < w1.heap.size + 1 + 1 := by omega); (try have hy1_0_0 : w.heap.size < w1.heap.size := by omega); (try have hn1_0_0 : w.heap.size ≠ w1.heap.size := by omega); (try have hm1_0_0 : w1.heap.size ≠ w.heap.size := by omega); (try have hy1_0_1 : w.heap.size + 1 < w1.heap.size := by omega); (try have hn1_0_1 : w.heap.size + 1 ≠ w1.heap.size := by omega); (try have hm1_0_1 : w1.heap.size ≠ w.heap.size + 1 := by omega); (try have hy1_0_2 : w.heap.size + 1 + 1 < w1.heap.size := by omega); (try have hp1_0_1 : w.heap.size < w1.heap.size + 1 := by omega); (try have hp1_0_2 : w.heap.size < w1.heap.size + 1 + 1 := by omega); (try have hg1_g1 : g1 < w1.heap.size := by omega); (try have hi1_g1 : g1 ≠ w1.heap.size := by omega); (try have hj1_g1 : w1.heap.size ≠ g1 := by omega); (try have hk1_g1 : g1 < w1.heap.size + 1 := by omega); (try have hg1_g2 : g2 < w1.heap.size := by omega); (try have hi1_g2 : g2 ≠ w1.heap.size := by omega); (try have hj1_g2 : w1.heap.size ≠ g2 := by omega); (try have hk1_g2 : g2 < w1.heap.size + 1 := by omega)
    rw [hb]
    go_wp2
    go_returns
    exact ⟨ret_bool E.out.symm, by (repeat' (first | (with_reducible exact Below.refl _ _) | (with_reducible assumption) | (with_reducible refine Below.drew ?_) | (with_reducible refine belowDrewN ?_ _) | (with_reducible refine Below.alloc ?_ ?_ _) | (with_reducible refine Below.setCell ?_ ?_ _) | (with_reducible refine belowStep (by assumption) ?_ ?_) | (with_reducible exact Below.size (by assumption)) | go_size))⟩
theorem meProper_any (n d : Int) (w : World) : Calls Tryz.prog 22 #[.agg #[.int .i64 n, .int .i64 d]] w (Ret (.bool (proB n d)) w) := by
  cases hb : goodB n d with
  | false =>
    have E : Hid (proB n d = false) := Lib.hid (proB_not fun h => by rw [h.1] at hb; cases hb)
    go_enter Tryz.func22, Tryz.ntmps22
    go_wp2_with fail
    refine (unGood_any _ _ _).mono ?_; rintro e w1 ⟨rfl, hb1⟩; obtain ⟨hc1, hf1⟩ := bcellB hb1; have hz1 := hb1.size; (try simp only [World.size_alloc] at hc1 hf1 hz1); (try have hy1_r_0 : wr.heap.size < w1.heap.size := by omega); (try have hn1_r_0 : wr.heap.size ≠ w1.heap.size := by omega); (try have hm1_r_0 : w1.heap.size ≠ wr.heap.size := by omega); (try have hy1_r_1 : wr.heap.size + 1 < w1.heap.size := by omega); (try have hn1_r_1 : wr.heap.size + 1 ≠ w1.heap.size := by omega); (try have hm1_r_1 : w1.heap.size ≠ wr.heap.size + 1 := by omega); (try have hy1_r_2 : wr.heap.size + 1 + 1 < w1.heap.size := by omega); (try have hp1_r_1 : wr.heap.size < w1.heap.size + 1 := by omega); (try have hp1_r_2 : wr.heap.size < w1.heap.size + 1 + 1 := by omega); (try have hy1_0_0 : w.heap.size < w1.heap.size := by omega); (try have hn1_0_0 : w.heap.size ≠ w1.heap.size := by omega); (try have hm1_0_0 : w1.heap.size ≠ w.heap.size := by omega); (try have hy1_0_1 : w.heap.size + 1 < w1.heap.size := by omega); (try have hn1_0_1 : w.heap.size + 1 ≠ w1.heap.size := by omega); (try have hm1_0_1 : w1.heap.size ≠ w.heap.size + 1 := by omega); (try have hy1_0_2 : w.heap.size + 1 + 1 < w1.heap.size := by omega); (try have hp1_0_1 : w.heap.size < w1.heap.size + 1 := by omega); (try have hp1_0_2 : w.heap.size < w1.heap.size + 1 + 1 := by omega); (try have hg1_g1 : g1 < w1.heap.size := by omega); (try have hi1_g1 : g1 ≠ w1.heap.size := by omega); (try have hj1_g1 : w1.heap.size ≠ g1 := by omega); (try have hk1_g1 : g1 < w1.heap.size + 1 := by omega); (try have hg1_g2 : g2 < w1.heap.size := by omega); (try have hi1_g2 : g2 ≠ w1.heap.size := by omega); (try have hj1_g2 : w1.heap.size ≠ g2 := by omega); (try have hk1_g2 : g2 < w1.heap.size + 1 := by omega)
    rw [hb]
    go_wp2
    go_returns
    exact ⟨ret_bool E.out.symm, by (repeat' (first | (with_reducible exact Below.refl _ _) | (with_reducible assumption) | (with_reducible refine Below.drew ?_) | (with_reducible refine belowDrewN ?_ _) | (with_reducible refine Below.alloc ?_ ?_ _) | (with_reducible refine Below.setCell ?_ ?_ _) | (with_reducible refine belowStep (by assumption) ?_ ?_) | (with_reducible exact Below.size (by assumption)) | go_size))⟩
  | true =>
    by_cases hn : 0 < n
    · have E : Hid (proB n d = decide (n < d)) := Lib.hid (by rw [proB, hb, decide_eq_true (show 1 ≤ n by omega), Bool.true_and, Bool.true_and])
      go_enter Tryz.func22, Tryz.ntmps22
      go_wp2_with fail
      refine (unGood_any _ _ _).mono ?_; rintro e w1 ⟨rfl, hb1⟩; obtain ⟨hc1, hf1⟩ := bcellB hb1; have hz1 := hb1.size; (try simp only [World.size_alloc] at hc1 hf1 hz1); (try have hy1_r_0 : wr.heap.size < w1.heap.size := by omega); (try have hn1_r_0 : wr.heap.size ≠ w1.heap.size := by omega); (try have hm1_r_0 : w1.heap.size ≠ wr.heap.size := by omega); (try have hy1_r_1 : wr.heap.size + 1 < w1.heap.size := by omega); (try have hn1_r_1 : wr.heap.size + 1 ≠ w1.heap.size := by omega); (try have hm1_r_1 : w1.heap.size ≠ wr.heap.size + 1 := by omega); (try have hy1_r_2 : wr.heap.size + 1 + 1 < w1.heap.size := by omega); (try have hp1_r_1 : wr.heap.size < w1.heap.size + 1 := by omega); (try have hp1_r_2 : wr.heap.size < w1.heap.size + 1 + 1 := by omega); (try have hy1_0_0 : w.heap.size < w1.heap.size := by omega); (try have hn1_0_0 : w.heap.size ≠ w1.heap.size := by omega); (try have hm1_0_0 : w1.heap.size ≠ w.heap.size := by omega); (try have hy1_0_1 : w.heap.size + 1 < w1.heap.size := by omega); (try have hn1_0_1 : w.heap.size + 1 ≠ w1.heap.size := by omega); (try have hm1_0_1 : w1.heap.size ≠ w.heap.size + 1 := by omega); (try have hy1_0_2 : w.heap.size + 1 + 1 < w1.heap.size := by omega); (try have hp1_0_1 : w.heap.size < w1.heap.size + 1 := by omega); (try have hp1_0_2 : w.heap.size < w1.heap.size + 1 + 1 := by omega); (try have hg1_g1 : g1 < w1.heap.size := by omega); (try have hi1_g1 : g1 ≠ w1.heap.size := by omega); (try have hj1_g1 : w1.heap.size ≠ g1 := by omega); (try have hk1_g1 : g1 < w1.heap.size + 1 := by omega); (try have hg1_g2 : g2 < w1.heap.size := by omega); (try have hi1_g2 : g2 ≠ w1.heap.size := by omega); (try have hj1_g2 : w1.heap.size ≠ g2 := by omega); (try have hk1_g2 : g2 < w1.heap.size + 1 := by omega)
      rw [hb]
      go_wp2
      go_returns
      exact ⟨ret_bool E.out.symm, by (repeat' (first | (with_reducible exact Below.refl _ _) | (with_reducible assumption) | (with_reducible refine Below.drew ?_) | (with_reducible refine belowDrewN ?_ _) | (with_reducible refine Below.alloc ?_ ?_ _) | (with_reducible refine Below.setCell ?_ ?_ _) | (with_reducible refine belowStep (by assumption) ?_ ?_) | (with_reducible exact Below.size (by assumption)) | go_size))⟩
    · have E : Hid (proB n d = false) := Lib.hid (proB_not fun h => hn (by have := h.2.1; omega))
      go_enter Tryz.func22, Tryz.ntmps22
      go_wp2_with fail
      refine (unGood_any _ _ _).mono ?_; rintro e w1 ⟨rfl, hb1⟩; obtain ⟨hc1, hf1⟩ := bcellB hb1; have hz1 := hb1.size; (try simp only [World.size_alloc] at hc1 hf1 hz1); (try have hy1_r_0 : wr.heap.size < w1.heap.size := by omega); (try have hn1_r_0 : wr.heap.size ≠ w1.heap.size := by omega); (try have hm1_r_0 : w1.heap.size ≠ wr.heap.size := by omega); (try have hy1_r_1 : wr.heap.size + 1 < w1.heap.size := by omega); (try have hn1_r_1 : wr.heap.size + 1 ≠ w1.heap.size := by omega); (try have hm1_r_1 : w1.heap.size ≠ wr.heap.size + 1 := by omega); (try have hy1_r_2 : wr.heap.size + 1 + 1 < w1.heap.size := by omega); (try have hp1_r_1 : wr.heap.size < w1.heap.size + 1 := by omega); (try have hp1_r_2 : wr.heap.size < w1.heap.size + 1 + 1 := by omega); (try have hy1_0_0 : w.heap.size < w1.heap.size := by omega); (try have hn1_0_0 : w.heap.size ≠ w1.heap.size := by omega); (try have hm1_0_0 : w1.heap.size ≠ w.heap.size := by omega); (try have hy1_0_1 : w.heap.size + 1 < w1.heap.size := by omega); (try have hn1_0_1 : w.heap.size + 1 ≠ w1.heap.size := by omega); (try have hm1_0_1 : w1.heap.size ≠ w.heap.size + 1 := by omega); (try have hy1_0_2 : w.heap.size + 1 + 1 < w1.heap.size := by omega); (try have hp1_0_1 : w.heap.size < w1.heap.size + 1 := by omega); (try have hp1_0_2 : w.heap.size < w1.heap.size + 1 + 1 := by omega); (try have hg1_g1 : g1 < w1.heap.size := by omega); (try have hi1_g1 : g1 ≠ w1.heap.size := by omega); (try have hj1_g1 : w1.heap.size ≠ g1 := by omega); (try have hk1_g1 : g1 < w1.heap.size + 1 := by omega); (try have hg1_g2 : g2 < w1.heap.size := by omega); (try have hi1_g2 : g2 ≠ w1.heap.size := by omega); (try have hj1_g2 : w1.heap.size ≠ g2 := by omega); (try have hk1_g2 : g2 < w1.heap.size + 1 := by omega)
      rw [hb]
      go_wp2
      go_returns
      exact ⟨ret_bool E.out.symm, by (repeat' (first | (with_reducible exact Below.refl _ _) | (with_reducible assumption) | (with_reducible refine Below.drew ?_) | (with_reducible refine belowDrewN ?_ _) | (with_reducible refine Below.alloc ?_ ?_ _) | (with_reducible refine Below.setCell ?_ ?_ _) | (with_reducible refine belowStep (by assumption) ?_ ?_) | (with_reducible exact Below.size (by assumption)) | go_size))⟩
theorem proB_bounds {n d : Int} (h : proB n d = true) : 1 ≤ n ∧ n ≤ 1000000000 ∧ 2 ≤ d ∧ d ≤ 1000000000 ∧ n < d ∧ goodB n d = true ∧ gcdI n d = 1 ∧ invB n d = true := by
  obtain ⟨hg, hn, hd⟩ := (proB_iff n d).1 h
  obtain ⟨_, a, _, b, c⟩ := (goodB_iff n d).1 hg
  exact ⟨hn, a, by omega, b, hd, hg, c, (invB_iff n d).2 ⟨hn, a, by omega, b, c⟩⟩
end Go.Proofs.YtbjblkfibinenadGreatDoor
