import Derived.Test.YtbjblkfibinenadGreatDoorPk8

/-
  Plain facts on fractions and sums of unit fractions as rational numbers.
-/
namespace Go.Proofs.YtbjblkfibinenadGreatDoor
open Go.RowKit
def rq (n d : Int) : Rat := (n : Rat) / (d : Rat)
def sumQ : List Int → Rat
  | [] => 0
  | x :: xs => 1 / (x : Rat) + sumQ xs
theorem ne0 {d : Int} (h : 1 ≤ d) : (d : Rat) ≠ 0 := by
  have : d ≠ 0 := by omega
  exact_mod_cast this
theorem rq_eq {n d m e : Int} (hd : 1 ≤ d) (he : 1 ≤ e) (h : n * e = m * d) : rq n d = rq m e := by
  have h1 := ne0 hd
  have h2 := ne0 he
  have h3 : (n : Rat) * e = m * d := by exact_mod_cast congrArg (fun x : Int => (x : Rat)) h
  unfold rq
  grind
theorem eq_rq {n d m e : Int} (hd : 1 ≤ d) (he : 1 ≤ e) (h : rq n d = rq m e) : n * e = m * d := by
  have h1 := ne0 hd
  have h2 := ne0 he
  unfold rq at h
  have h3 : (n : Rat) * e = m * d := by grind
  exact_mod_cast h3
theorem red_q {n d : Int} (hd : 1 ≤ d) : rq (n / gcdI n d) (d / gcdI n d) = rq n d := by
  have hg := gcdI_pos n d (by omega)
  have h2 := div_pos1 hd (by omega : 1 ≤ gcdI n d) (gcdI_dvdR n d)
  refine rq_eq h2 hd ?_
  obtain ⟨a, ha⟩ := gcdI_dvdL n d
  obtain ⟨b, hb⟩ := gcdI_dvdR n d
  generalize gcdI n d = g at *
  subst ha hb
  rw [Int.mul_ediv_cancel_left _ (by omega), Int.mul_ediv_cancel_left _ (by omega)]
  grind
theorem redN_q {n d : Int} (hd : 1 ≤ d) (h : redB n d = true) : rq (redN n d) (redD n d) = rq n d := by
  rw [redN, redD, if_pos h, if_pos h, red_q hd]
theorem dvd_cop {k m n : Int} (h : gcdI m k = 1) (hd : k ∣ m * n) : k ∣ n := by
  rw [← Int.natAbs_dvd_natAbs] at *
  rw [Int.natAbs_mul] at hd
  refine Nat.Coprime.dvd_of_dvd_mul_left ?_ hd
  unfold gcdI at h
  have : Int.gcd m k = 1 := by omega
  rw [Nat.Coprime, Nat.gcd_comm]
  exact this
/-- fractions in lowest terms that are the same number are the same pair -/
theorem good_same {n d m e : Int} (h : goodB n d = true) (h2 : goodB m e = true) (hq : rq n d = rq m e) : n = m ∧ d = e := by
  obtain ⟨n0, _, d1, _, g1⟩ := (goodB_iff n d).1 h
  obtain ⟨m0, _, e1, _, g2⟩ := (goodB_iff m e).1 h2
  have hx := eq_rq d1 e1 hq
  have a : d ∣ e := by
    have : d ∣ n * e := by rw [hx]; exact ⟨m, Int.mul_comm _ _⟩
    exact dvd_cop g1 this
  have b : e ∣ d := by
    have : e ∣ m * d := by rw [← hx]; exact ⟨n, Int.mul_comm _ _⟩
    exact dvd_cop g2 this
  have hde : d = e := by
    have := Int.le_of_dvd (by omega) a
    have := Int.le_of_dvd (by omega) b
    omega
  subst hde
  exact ⟨Int.eq_of_mul_eq_mul_right (by omega) hx, rfl⟩
theorem sumL_q : ∀ {xs : List Int} {n d n' d' : Int}, 1 ≤ d → (∀ x ∈ xs, 1 ≤ x) → sumL n d xs = some (n', d') → rq n' d' = rq n d + sumQ xs ∧ 1 ≤ d'
  | [], n, d, n', d', hd, _, h => by
    simp only [sumL, Option.some.injEq, Prod.mk.injEq] at h
    obtain ⟨rfl, rfl⟩ := h
    exact ⟨by simp only [sumQ]; grind, hd⟩
  | t :: ts, n, d, n', d', hd, hx, h => by
    have ht := hx t (by simp)
    have p := mul_pos1 hd ht
    cases hr : redB (n * t + d) (d * t) with
    | false => rw [sumL_no hr] at h; cases h
    | true =>
      rw [sumL_yes hr] at h
      have h1 : 1 ≤ redD (n * t + d) (d * t) := by
        rw [redD, if_pos hr]
        exact div_pos1 p (gcdI_pos _ _ (by omega)) (gcdI_dvdR _ _)
      obtain ⟨e, hd'⟩ := sumL_q h1 (fun x hx' => hx x (by simp [hx'])) h
      refine ⟨?_, hd'⟩
      rw [e, redN_q p hr]
      have a1 := ne0 hd
      have a2 := ne0 ht
      unfold rq
      simp only [sumQ, Rat.intCast_add, Rat.intCast_mul]
      grind
theorem sum_q {xs : List Int} (h : expB xs = true) : rq (sumN xs) (sumD xs) = sumQ xs := by
  have hp := expB_parts h
  have := (sumL_q (by omega) (fun x hx => (expB_small h x hx).1) hp.2.2).1
  rw [this]
  unfold rq
  simp only [Rat.intCast_zero, Rat.intCast_one]
  grind
theorem sumQ_append (xs ys : List Int) : sumQ (xs ++ ys) = sumQ xs + sumQ ys := by
  induction xs with
  | nil => show sumQ ys = 0 + sumQ ys; grind
  | cons x xs ih => simp only [List.cons_append, sumQ, ih]; grind
theorem sumQ_nonneg {xs : List Int} (h : ∀ x ∈ xs, 1 ≤ x) : 0 ≤ sumQ xs := by
  induction xs with
  | nil => simp [sumQ]
  | cons x xs ih =>
    have h1 := ih (fun y hy => h y (by simp [hy]))
    have h2 : (0 : Rat) < x := by exact_mod_cast (by have := h x (by simp); omega : 0 < x)
    have h3 : 0 < 1 / (x : Rat) := by rw [Rat.div_def]; have := Rat.inv_pos.2 h2; grind
    simp only [sumQ]
    grind
theorem le_rq {n d m e : Int} (hd : 1 ≤ d) (he : 1 ≤ e) (h : rq n d ≤ rq m e) : n * e ≤ m * d := by
  have h1 := ne0 hd
  have h2 := ne0 he
  have p1 : (0 : Rat) < d := by exact_mod_cast (by omega : 0 < d)
  have p2 : (0 : Rat) < e := by exact_mod_cast (by omega : 0 < e)
  have p := Rat.le_of_lt (Rat.mul_pos p1 p2)
  have q := Rat.mul_le_mul_of_nonneg_right h p
  unfold rq at q
  have a : (n : Rat) / d * (d * e) = n * e := by grind
  have b : (m : Rat) / e * (d * e) = m * d := by grind
  rw [a, b] at q
  exact_mod_cast q
end Go.Proofs.YtbjblkfibinenadGreatDoor


/-
  Plain facts on steps that are made one after the other until nothing is left, and on steps that take a unit fraction away.
-/
namespace Go.Proofs.YtbjblkfibinenadGreatDoor
open Go.RowKit
/-- the least u for which u times a fraction is at least 1 -/
def ucd (n d : Int) : Int := (d + n - 1) / n
theorem ucd_facts {n d : Int} (hn : 1 ≤ n) (hd : 1 ≤ d) : 1 ≤ ucd n d ∧ d ≤ n * ucd n d ∧ n * ucd n d ≤ d + n - 1 ∧ ucd n d ≤ d := by
  have h1 : n * ((d + n - 1) / n) + (d + n - 1) % n = d + n - 1 := Int.mul_ediv_add_emod _ _
  have h2 := Int.emod_nonneg (d + n - 1) (by omega : n ≠ 0)
  have h3 := Int.emod_lt_of_pos (d + n - 1) (by omega : 0 < n)
  unfold ucd
  have h4 : 1 ≤ (d + n - 1) / n := by
    have := Int.ediv_le_ediv (a := n) (b := d + n - 1) (c := n) (by omega) (by omega)
    rw [Int.ediv_self (by omega)] at this
    exact this
  have h5 : (d + n - 1) / n ≤ d := by
    have hp : 0 ≤ (d - 1) * (n - 1) := Int.mul_nonneg (by omega) (by omega)
    have he : (d - 1) * (n - 1) = d * n - d - n + 1 := by grind
    exact Int.ediv_le_of_le_mul (by omega) (by omega)
  generalize n * ((d + n - 1) / n) = q at *
  exact ⟨h4, by omega, by omega, h5⟩
/-- whatever lies so is it -/
theorem ucd_of {n d u : Int} (hn : 1 ≤ n) (hd : 1 ≤ d) (h1 : d ≤ n * u) (h2 : n * u ≤ d + n - 1) : ucd n d = u := by
  obtain ⟨_, a, b, _⟩ := ucd_facts hn hd
  generalize ucd n d = v at *
  rcases Int.lt_trichotomy v u with h | h | h
  · have h3 : n * (v + 1) ≤ n * u := Int.mul_le_mul_of_nonneg_left (by omega) (by omega)
    have h4 : n * (v + 1) = n * v + n := by grind
    omega
  · exact h
  · have h3 : n * (u + 1) ≤ n * v := Int.mul_le_mul_of_nonneg_left (by omega) (by omega)
    have h4 : n * (u + 1) = n * u + n := by grind
    omega
/-- a step: from the least number that may be taken and what is left, the number that is taken and what is left then -/
abbrev Stp := Int → Int → Int → Option (Int × Int × Int)
/-- the steps until nothing is left, so many at most: the numbers that are taken, each with what is left behind it -/
def walkR (st : Stp) : Nat → Int → Int → Int → Option (List (Int × Int × Int))
  | 0, _, n, _ => if n ≤ 0 then some [] else none
  | k + 1, l, n, d => if n ≤ 0 then some [] else (st l n d).bind fun p => (walkR st k (p.1 + 1) p.2.1 p.2.2).map (p :: ·)
theorem walkR_end {st : Stp} {k : Nat} {l n d : Int} (h : n ≤ 0) : walkR st k l n d = some [] := by cases k <;> simp [walkR, h]
theorem walkR_out {st : Stp} {l n d : Int} (h : 0 < n) : walkR st 0 l n d = none := by
  have : ¬ n ≤ 0 := by omega
  simp [walkR, this]
theorem walkR_none {st : Stp} {k : Nat} {l n d : Int} (h : 0 < n) (hs : st l n d = none) : walkR st (k + 1) l n d = none := by
  have : ¬ n ≤ 0 := by omega
  simp [walkR, this, hs]
theorem walkR_some {st : Stp} {k : Nat} {l n d t n' d' : Int} (h : 0 < n) (hs : st l n d = some (t, n', d')) : walkR st (k + 1) l n d = (walkR st k (t + 1) n' d').map ((t, n', d') :: ·) := by
  have : ¬ n ≤ 0 := by omega
  simp [walkR, this, hs]
/-- the relation of a loop that has made the steps es -/
def Walked (st : Stp) (k0 : Nat) (l0 n0 d0 : Int) (es : List (Int × Int × Int)) (l n d : Int) : Prop := es.length ≤ k0 ∧ walkR st k0 l0 n0 d0 = (walkR st (k0 - es.length) l n d).map (es ++ ·)
theorem Walked.start (st : Stp) (k0 : Nat) (l0 n0 d0 : Int) : Walked st k0 l0 n0 d0 [] l0 n0 d0 := ⟨by simp, by cases h : walkR st k0 l0 n0 d0 <;> simp⟩
section
variable {st : Stp} {k0 : Nat} {l0 n0 d0 l n d t n' d' : Int} {es : List (Int × Int × Int)}
theorem Walked.step (h : Walked st k0 l0 n0 d0 es l n d) (hk : es.length < k0) (hn : 0 < n) (hs : st l n d = some (t, n', d')) : Walked st k0 l0 n0 d0 (es ++ [(t, n', d')]) (t + 1) n' d' := by
  refine ⟨by simp; omega, ?_⟩
  rw [h.2, show k0 - es.length = (k0 - (es ++ [(t, n', d')]).length) + 1 from by simp; omega, walkR_some hn hs, Option.map_map]
  congr 1
  funext x
  simp
theorem Walked.done (h : Walked st k0 l0 n0 d0 es l n d) (hn : n ≤ 0) : walkR st k0 l0 n0 d0 = some es := by
  rw [h.2, walkR_end hn]; simp
theorem Walked.fails (h : Walked st k0 l0 n0 d0 es l n d) (hn : 0 < n) (hs : st l n d = none) : walkR st k0 l0 n0 d0 = none := by
  rw [h.2]
  cases hk : k0 - es.length with
  | zero => rw [walkR_out hn]; rfl
  | succ j => rw [walkR_none hn hs]; rfl
theorem Walked.full (h : Walked st k0 l0 n0 d0 es l n d) (hn : 0 < n) (hk : es.length = k0) : walkR st k0 l0 n0 d0 = none := by
  rw [h.2, hk, Nat.sub_self, walkR_out hn]; rfl
end
/-- the numbers that are taken -/
def takenOf (es : List (Int × Int × Int)) : List Int := es.map (·.1)
theorem takenOf_snoc (es : List (Int × Int × Int)) (p : Int × Int × Int) : takenOf (es ++ [p]) = takenOf es ++ [p.1] := by simp [takenOf]
theorem takenOf_len (es : List (Int × Int × Int)) : (takenOf es).length = es.length := by simp [takenOf]

/- a unit fraction is taken away -/
def tB (n d t : Int) : Bool := decide (t ≤ 1000000000) && decide (d ≤ n * t) && redB (n * t - d) (d * t)
def tT (n d t : Int) : Int := if tB n d t = true then t else 0
def tN (n d t : Int) : Int := if tB n d t = true then redN (n * t - d) (d * t) else 0
def tD (n d t : Int) : Int := if tB n d t = true then redD (n * t - d) (d * t) else 0
theorem tB_parts {n d t : Int} (h : tB n d t = true) : t ≤ 1000000000 ∧ d ≤ n * t ∧ redB (n * t - d) (d * t) = true ∧ tT n d t = t ∧ tN n d t = redN (n * t - d) (d * t) ∧ tD n d t = redD (n * t - d) (d * t) := by
  refine ⟨?_, ?_, ?_, by rw [tT, if_pos h], by rw [tN, if_pos h], by rw [tD, if_pos h]⟩ <;> simp only [tB, Bool.and_eq_true, decide_eq_true_eq] at h <;> first | exact h.1.1 | exact h.1.2 | exact h.2
theorem tB_no {n d t : Int} (h : tB n d t = false) : tT n d t = 0 ∧ tN n d t = 0 ∧ tD n d t = 0 := by
  refine ⟨by rw [tT, h]; rfl, by rw [tN, h]; rfl, by rw [tD, h]; rfl⟩
theorem tB_good {n d t : Int} (hd : 1 ≤ d) (ht : 1 ≤ t) (h : tB n d t = true) : goodB (tN n d t) (tD n d t) = true := by
  obtain ⟨_, h2, h3, _, h5, h6⟩ := tB_parts h
  rw [h5, h6]
  exact good_of_redB (by omega) (mul_pos1 hd ht) h3
/-- what is left, cleared of its divisors -/
theorem red_cross {n d : Int} (hd : 1 ≤ d) (h : redB n d = true) : redN n d * d = n * redD n d ∧ 1 ≤ redD n d := by
  have hg := gcdI_pos n d (by omega)
  rw [redN, redD, if_pos h, if_pos h]
  refine ⟨?_, div_pos1 hd (by omega) (gcdI_dvdR n d)⟩
  obtain ⟨a, ha⟩ := gcdI_dvdL n d
  obtain ⟨b, hb⟩ := gcdI_dvdR n d
  generalize gcdI n d = g at *
  subst ha hb
  rw [Int.mul_ediv_cancel_left _ (by omega), Int.mul_ediv_cancel_left _ (by omega)]
  grind
theorem red_zero {d : Int} (hd : 1 ≤ d) : redN 0 d = 0 ∧ redD 0 d = 1 := by
  have h0 : gcdI 0 d = d := by unfold gcdI; rw [Int.gcd_zero_left]; omega
  have hr : redB 0 d = true := redB_yes (by rw [Int.zero_ediv]; omega) (by rw [h0, Int.ediv_self (by omega)]; omega)
  rw [redN, redD, if_pos hr, if_pos hr, h0]
  exact ⟨Int.zero_ediv _, Int.ediv_self (by omega)⟩
theorem red_nonneg {n d : Int} (hn : 0 ≤ n) : 0 ≤ redN n d := by
  unfold redN
  split
  · exact Int.ediv_nonneg hn (by unfold gcdI; omega)
  · omega
theorem red_le {n d : Int} (hn : 0 ≤ n) (hd : 1 ≤ d) : redN n d ≤ n := by
  have hg := gcdI_pos n d (by omega)
  unfold redN
  split
  · exact Int.ediv_le_self _ hn
  · omega
theorem red_pos {n d : Int} (hn : 1 ≤ n) (hd : 1 ≤ d) (h : redB n d = true) : 1 ≤ redN n d := by
  rw [redN, if_pos h]
  exact div_pos1 hn (by have := gcdI_pos n d (by omega); omega) (gcdI_dvdL n d)
/-- what is taken next has grown -/
theorem grow_next {n d t n' d' u : Int} (h0 : n * t ≤ d + n - 1) (h1 : d ≤ n * t) (hd : 1 ≤ d) (ht : 1 ≤ t) (hd' : 1 ≤ d') (hc : n' * (d * t) = (n * t - d) * d') (hu : d' ≤ n' * u) : t * (t - 1) < u := by
  have hdt := mul_pos1 hd ht
  have a1 : d' * (d * t) ≤ n' * u * (d * t) := Int.mul_le_mul_of_nonneg_right hu (by omega)
  have a2 : n' * u * (d * t) = d' * ((n * t - d) * u) := by
    have : n' * u * (d * t) = (n' * (d * t)) * u := by grind
    rw [this, hc]; grind
  rw [a2] at a1
  have a3 : d * t ≤ (n * t - d) * u := Int.le_of_mul_le_mul_left a1 (by omega)
  refine Int.not_le.1 fun hle => ?_
  have a4 : (n * t - d) * u ≤ (n * t - d) * (t * (t - 1)) := Int.mul_le_mul_of_nonneg_left hle (by omega)
  have a5 : t * d ≤ t * ((n * t - d) * (t - 1)) := by
    have e1 : (n * t - d) * (t * (t - 1)) = t * ((n * t - d) * (t - 1)) := by grind
    have e2 : d * t = t * d := Int.mul_comm _ _
    omega
  have a6 : d ≤ (n * t - d) * (t - 1) := Int.le_of_mul_le_mul_left a5 (by omega)
  have a7 : t * d ≤ t * (n * (t - 1)) := by
    have e1 : (n * t - d) * (t - 1) = t * (n * (t - 1)) - t * d + d := by grind
    omega
  have a8 : d ≤ n * (t - 1) := Int.le_of_mul_le_mul_left a7 (by omega)
  have a9 : n * (t - 1) = n * t - n := by grind
  omega
theorem grow_step {n d : Int} (hg : goodB n d = true) (hn : 1 ≤ n) (hb : tB n d (ucd n d) = true) (hn' : 1 ≤ tN n d (ucd n d)) : ucd n d * (ucd n d - 1) < ucd (tN n d (ucd n d)) (tD n d (ucd n d)) := by
  obtain ⟨_, _, d1, _⟩ := good_bounds hg
  obtain ⟨u1, u2, u3, u4⟩ := ucd_facts hn d1
  obtain ⟨_, _, h3, _, h5, h6⟩ := tB_parts hb
  obtain ⟨hc, hd'⟩ := red_cross (mul_pos1 d1 u1) h3
  rw [← h5, ← h6] at hc
  rw [← h6] at hd'
  exact grow_next u3 u2 d1 u1 hd' hc (ucd_facts hn' hd').2.1
/-- a greedy step leaves less above the line -/
theorem tN_less {n d : Int} (hg : goodB n d = true) (hn : 1 ≤ n) (hb : tB n d (ucd n d) = true) : tN n d (ucd n d) < n ∧ 0 ≤ tN n d (ucd n d) := by
  obtain ⟨_, _, d1, _⟩ := good_bounds hg
  obtain ⟨u1, u2, u3, u4⟩ := ucd_facts hn d1
  obtain ⟨_, _, h3, _, h5, h6⟩ := tB_parts hb
  rw [h5]
  have := red_le (n := n * ucd n d - d) (d := d * ucd n d) (by omega) (mul_pos1 d1 u1)
  have := red_nonneg (n := n * ucd n d - d) (d := d * ucd n d) (by omega)
  omega
/- the ways to take a number -/
def stG (p : Int → Int → Int → Int) : Stp := fun l n d => if tB n d (p l n d) = true then some (p l n d, tN n d (p l n d), tD n d (p l n d)) else none
def pick0 (_ n d : Int) : Int := ucd n d
def pick1 (l n d : Int) : Int := max l (ucd n d)
def pick2 (l n d : Int) : Int := if max l (ucd n d) % 2 = 0 then max l (ucd n d) + 1 else max l (ucd n d)
theorem stG_some {p : Int → Int → Int → Int} {l n d t n' d' : Int} (h : stG p l n d = some (t, n', d')) : t = p l n d ∧ tB n d t = true ∧ n' = tN n d t ∧ d' = tD n d t := by
  unfold stG at h
  split at h
  · rename_i hb
    simp only [Option.some.injEq, Prod.mk.injEq] at h
    obtain ⟨rfl, rfl, rfl⟩ := h
    exact ⟨rfl, hb, rfl, rfl⟩
  · cases h
theorem stG_yes {p : Int → Int → Int → Int} {l n d : Int} (h : tB n d (p l n d) = true) : stG p l n d = some (p l n d, tN n d (p l n d), tD n d (p l n d)) := if_pos h
theorem stG_no {p : Int → Int → Int → Int} {l n d : Int} (h : tB n d (p l n d) = false) : stG p l n d = none := if_neg (by rw [h]; simp)
/-- up to 1 no least number is wanted -/
theorem walk_pick : ∀ (k : Nat) {l l' n d : Int}, goodB n d = true → n ≤ d → (1 ≤ n → l ≤ ucd n d) → walkR (stG pick0) k l' n d = walkR (stG pick1) k l n d
  | 0, l, l', n, d, _, _, _ => rfl
  | k + 1, l, l', n, d, hg, hnd, hl => by
    by_cases h0 : n ≤ 0
    · rw [walkR_end h0, walkR_end h0]
    · have hn : 0 < n := by omega
      have hp : pick1 l n d = ucd n d := by have := hl (by omega); unfold pick1; omega
      obtain ⟨_, _, d1, _⟩ := good_bounds hg
      obtain ⟨u1, u2, u3, u4⟩ := ucd_facts (by omega : 1 ≤ n) d1
      cases hb : tB n d (ucd n d) with
      | false =>
        rw [walkR_none hn (stG_no (p := pick0) hb), walkR_none hn (stG_no (p := pick1) (by rw [hp]; exact hb))]
      | true =>
        have s1 := stG_yes (p := pick0) (l := l') (n := n) (d := d) hb
        have s2 := stG_yes (p := pick1) (l := l) (n := n) (d := d) (by rw [hp]; exact hb)
        rw [hp] at s2
        have hp0 : pick0 l' n d = ucd n d := rfl
        rw [hp0] at s1
        rw [walkR_some hn s1, walkR_some hn s2]
        have hg' := tB_good d1 u1 hb
        have hcr : tN n d (ucd n d) ≤ tD n d (ucd n d) := by
          obtain ⟨_, _, h3, _, h5, h6⟩ := tB_parts hb
          obtain ⟨hc, hd'⟩ := red_cross (mul_pos1 d1 u1) h3
          rw [← h5, ← h6] at hc
          rw [← h6] at hd'
          have hm := mul_pos1 d1 u1
          have h7 : n * ucd n d - d ≤ d * ucd n d := by
            have := Int.mul_le_mul_of_nonneg_right hnd (by omega : 0 ≤ ucd n d)
            omega
          have h8 := Int.mul_le_mul_of_nonneg_right h7 (by omega : 0 ≤ tD n d (ucd n d))
          rw [← hc] at h8
          rw [Int.mul_comm (d * ucd n d)] at h8
          exact Int.le_of_mul_le_mul_right h8 (by omega)
        rw [walk_pick k (l := ucd n d + 1) (l' := ucd n d + 1) hg' hcr (fun hn' => by
          have := grow_step hg (by omega) hb hn'
          by_cases h1 : ucd n d = 1
          · obtain ⟨h5, h6⟩ := (tB_parts hb).2.2.2.2
            rw [h1] at h5 u2
            have : n = d := by omega
            rw [this, Int.mul_one, Int.sub_self, (red_zero (by omega : (1:Int) ≤ d)).1] at h5
            rw [h1, this] at hn'
            omega
          · have h2 : 1 * ucd n d ≤ (ucd n d - 1) * ucd n d := Int.mul_le_mul_of_nonneg_right (by omega) (by omega)
            rw [Int.mul_comm (ucd n d - 1)] at h2
            omega)]
/-- the sum of what is taken -/
theorem tN_q {n d t : Int} (hd : 1 ≤ d) (ht : 1 ≤ t) (h : tB n d t = true) : rq n d = 1 / (t : Rat) + rq (tN n d t) (tD n d t) := by
  obtain ⟨_, _, h3, _, h5, h6⟩ := tB_parts h
  rw [h5, h6, redN_q (mul_pos1 hd ht) h3]
  have h1 := ne0 hd
  have h2 := ne0 ht
  unfold rq
  simp only [Rat.intCast_sub, Rat.intCast_mul]
  grind
end Go.Proofs.YtbjblkfibinenadGreatDoor
