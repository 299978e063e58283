import Derived.Test.YtleookfdngnphaaPk6

/-
  Plain facts on fractions and sums of unit fractions as rational numbers.
-/
namespace Go.Proofs.Ytleookfdngnphaa
open Go.RowKit
def rq (n d : Int) : Rat := (n : Rat) / (d : Rat)
def sumQ : List Int → Rat
  | [] => 0
  | x :: xs => 1 / (x : Rat) + sumQ xs
theorem ne0 {d : Int} (h : 1 ≤ d) : (d : Rat) ≠ 0 := by
  have : d ≠ 0 := by omega
  exact_mod_cast this
theorem rq_eq {n d m e : Int} (hd : 1 ≤ d) (he : 1 ≤ e) (h : n * e = m * d) : rq n d = rq m e := by
  have h1 := ne0 hd
  have h2 := ne0 he
  have h3 : (n : Rat) * e = m * d := by exact_mod_cast congrArg (fun x : Int => (x : Rat)) h
  unfold rq
  grind
theorem eq_rq {n d m e : Int} (hd : 1 ≤ d) (he : 1 ≤ e) (h : rq n d = rq m e) : n * e = m * d := by
  have h1 := ne0 hd
  have h2 := ne0 he
  unfold rq at h
  have h3 : (n : Rat) * e = m * d := by grind
  exact_mod_cast h3
theorem red_q {n d : Int} (hd : 1 ≤ d) : rq (n / gcdI n d) (d / gcdI n d) = rq n d := by
  have hg := gcdI_pos n d (by omega)
  have h2 := div_pos1 hd (by omega : 1 ≤ gcdI n d) (gcdI_dvdR n d)
  refine rq_eq h2 hd ?_
  obtain ⟨a, ha⟩ := gcdI_dvdL n d
  obtain ⟨b, hb⟩ := gcdI_dvdR n d
  generalize gcdI n d = g at *
  subst ha hb
  rw [Int.mul_ediv_cancel_left _ (by omega), Int.mul_ediv_cancel_left _ (by omega)]
  grind
theorem redN_q {n d : Int} (hd : 1 ≤ d) (h : redB n d = true) : rq (redN n d) (redD n d) = rq n d := by
  rw [redN, redD, if_pos h, if_pos h, red_q hd]
theorem dvd_cop {k m n : Int} (h : gcdI m k = 1) (hd : k ∣ m * n) : k ∣ n := by
  rw [← Int.natAbs_dvd_natAbs] at *
  rw [Int.natAbs_mul] at hd
  refine Nat.Coprime.dvd_of_dvd_mul_left ?_ hd
  unfold gcdI at h
  have : Int.gcd m k = 1 := by omega
  rw [Nat.Coprime, Nat.gcd_comm]
  exact this
/-- fractions in lowest terms that are the same number are the same pair -/
theorem good_same {n d m e : Int} (h : goodB n d = true) (h2 : goodB m e = true) (hq : rq n d = rq m e) : n = m ∧ d = e := by
  obtain ⟨n0, _, d1, _, g1⟩ := (goodB_iff n d).1 h
  obtain ⟨m0, _, e1, _, g2⟩ := (goodB_iff m e).1 h2
  have hx := eq_rq d1 e1 hq
  have a : d ∣ e := by
    have : d ∣ n * e := by rw [hx]; exact ⟨m, Int.mul_comm _ _⟩
    exact dvd_cop g1 this
  have b : e ∣ d := by
    have : e ∣ m * d := by rw [← hx]; exact ⟨n, Int.mul_comm _ _⟩
    exact dvd_cop g2 this
  have hde : d = e := by
    have := Int.le_of_dvd (by omega) a
    have := Int.le_of_dvd (by omega) b
    omega
  subst hde
  exact ⟨Int.eq_of_mul_eq_mul_right (by omega) hx, rfl⟩
theorem sumL_q : ∀ {xs : List Int} {n d n' d' : Int}, 1 ≤ d → (∀ x ∈ xs, 1 ≤ x) → sumL n d xs = some (n', d') → rq n' d' = rq n d + sumQ xs ∧ 1 ≤ d'
  | [], n, d, n', d', hd, _, h => by
    simp only [sumL, Option.some.injEq, Prod.mk.injEq] at h
    obtain ⟨rfl, rfl⟩ := h
    exact ⟨by simp only [sumQ]; grind, hd⟩
  | t :: ts, n, d, n', d', hd, hx, h => by
    have ht := hx t (by simp)
    have p := mul_pos1 hd ht
    cases hr : redB (n * t + d) (d * t) with
    | false => rw [sumL_no hr] at h; cases h
    | true =>
      rw [sumL_yes hr] at h
      have h1 : 1 ≤ redD (n * t + d) (d * t) := by
        rw [redD, if_pos hr]
        exact div_pos1 p (gcdI_pos _ _ (by omega)) (gcdI_dvdR _ _)
      obtain ⟨e, hd'⟩ := sumL_q h1 (fun x hx' => hx x (by simp [hx'])) h
      refine ⟨?_, hd'⟩
      rw [e, redN_q p hr]
      have a1 := ne0 hd
      have a2 := ne0 ht
      unfold rq
      simp only [sumQ, Rat.intCast_add, Rat.intCast_mul]
      grind
theorem sum_q {xs : List Int} (h : expB xs = true) : rq (sumN xs) (sumD xs) = sumQ xs := by
  have hp := expB_parts h
  have := (sumL_q (by omega) (fun x hx => (expB_small h x hx).1) hp.2.2).1
  rw [this]
  unfold rq
  simp only [Rat.intCast_zero, Rat.intCast_one]
  grind
theorem sumQ_append (xs ys : List Int) : sumQ (xs ++ ys) = sumQ xs + sumQ ys := by
  induction xs with
  | nil => show sumQ ys = 0 + sumQ ys; grind
  | cons x xs ih => simp only [List.cons_append, sumQ, ih]; grind
theorem sumQ_nonneg {xs : List Int} (h : ∀ x ∈ xs, 1 ≤ x) : 0 ≤ sumQ xs := by
  induction xs with
  | nil => simp [sumQ]
  | cons x xs ih =>
    have h1 := ih (fun y hy => h y (by simp [hy]))
    have h2 : (0 : Rat) < x := by exact_mod_cast (by have := h x (by simp); omega : 0 < x)
    have h3 : 0 < 1 / (x : Rat) := by rw [Rat.div_def]; have := Rat.inv_pos.2 h2; grind
    simp only [sumQ]
    grind
theorem le_rq {n d m e : Int} (hd : 1 ≤ d) (he : 1 ≤ e) (h : rq n d ≤ rq m e) : n * e ≤ m * d := by
  have h1 := ne0 hd
  have h2 := ne0 he
  have p1 : (0 : Rat) < d := by exact_mod_cast (by omega : 0 < d)
  have p2 : (0 : Rat) < e := by exact_mod_cast (by omega : 0 < e)
  have p := Rat.le_of_lt (Rat.mul_pos p1 p2)
  have q := Rat.mul_le_mul_of_nonneg_right h p
  unfold rq at q
  have a : (n : Rat) / d * (d * e) = n * e := by grind
  have b : (m : Rat) / e * (d * e) = m * d := by grind
  rw [a, b] at q
  exact_mod_cast q
end Go.Proofs.Ytleookfdngnphaa


/-
  Plain facts on steps that are made one after the other until nothing is left, and on steps that take a unit fraction away.
-/
namespace Go.Proofs.Ytleookfdngnphaa
open Go.RowKit
/-- the least u for which u times a fraction is at least 1 -/
def ucd (n d : Int) : Int := (d + n - 1) / n
theorem ucd_facts {n d : Int} (hn : 1 ≤ n) (hd : 1 ≤ d) : 1 ≤ ucd n d ∧ d ≤ n * ucd n d ∧ n * ucd n d ≤ d + n - 1 ∧ ucd n d ≤ d := by
  have h1 : n * ((d + n - 1) / n) + (d + n - 1) % n = d + n - 1 := Int.mul_ediv_add_emod _ _
  have h2 := Int.emod_nonneg (d + n - 1) (by omega : n ≠ 0)
  have h3 := Int.emod_lt_of_pos (d + n - 1) (by omega : 0 < n)
  unfold ucd
  have h4 : 1 ≤ (d + n - 1) / n := by
    have := Int.ediv_le_ediv (a := n) (b := d + n - 1) (c := n) (by omega) (by omega)
    rw [Int.ediv_self (by omega)] at this
    exact this
  have h5 : (d + n - 1) / n ≤ d := by
    have hp : 0 ≤ (d - 1) * (n - 1) := Int.mul_nonneg (by omega) (by omega)
    have he : (d - 1) * (n - 1) = d * n - d - n + 1 := by grind
    exact Int.ediv_le_of_le_mul (by omega) (by omega)
  generalize n * ((d + n - 1) / n) = q at *
  exact ⟨h4, by omega, by omega, h5⟩
/-- whatever lies so is it -/
theorem ucd_of {n d u : Int} (hn : 1 ≤ n) (hd : 1 ≤ d) (h1 : d ≤ n * u) (h2 : n * u ≤ d + n - 1) : ucd n d = u := by
  obtain ⟨_, a, b, _⟩ := ucd_facts hn hd
  generalize ucd n d = v at *
  rcases Int.lt_trichotomy v u with h | h | h
  · have h3 : n * (v + 1) ≤ n * u := Int.mul_le_mul_of_nonneg_left (by omega) (by omega)
    have h4 : n * (v + 1) = n * v + n := by grind
    omega
  · exact h
  · have h3 : n * (u + 1) ≤ n * v := Int.mul_le_mul_of_nonneg_left (by omega) (by omega)
    have h4 : n * (u + 1) = n * u + n := by grind
    omega
/-- a step: from the least number that may be taken and what is left, the number that is taken and what is left then -/
abbrev Stp := Int → Int → Int → Option (Int × Int × Int)
/-- the steps until nothing is left, so many at most: the numbers that are taken, each with what is left behind it -/
def walkR (st : Stp) : Nat → Int → Int → Int → Option (List (Int × Int × Int))
  | 0, _, n, _ => if n ≤ 0 then some [] else none
  | k + 1, l, n, d => if n ≤ 0 then some [] else (st l n d).bind fun p => (walkR st k (p.1 + 1) p.2.1 p.2.2).map (p :: ·)
theorem walkR_end {st : Stp} {k : Nat} {l n d : Int} (h : n ≤ 0) : walkR st k l n d = some [] := by cases k <;> simp [walkR, h]
theorem walkR_out {st : Stp} {l n d : Int} (h : 0 < n) : walkR st 0 l n d = none := by
  have : ¬ n ≤ 0 := by omega
  simp [walkR, this]
theorem walkR_none {st : Stp} {k : Nat} {l n d : Int} (h : 0 < n) (hs : st l n d = none) : walkR st (k + 1) l n d = none := by
  have : ¬ n ≤ 0 := by omega
  simp [walkR, this, hs]
theorem walkR_some {st : Stp} {k : Nat} {l n d t n' d' : Int} (h : 0 < n) (hs : st l n d = some (t, n', d')) : walkR st (k + 1) l n d = (walkR st k (t + 1) n' d').map ((t, n', d') :: ·) := by
  have : ¬ n ≤ 0 := by omega
  simp [walkR, this, hs]
/-- the relation of a loop that has made the steps es -/
def Walked (st : Stp) (k0 : Nat) (l0 n0 d0 : Int) (es : List (Int × Int × Int)) (l n d : Int) : Prop := es.length ≤ k0 ∧ walkR st k0 l0 n0 d0 = (walkR st (k0 - es.length) l n d).map (es ++ ·)
theorem Walked.start (st : Stp) (k0 : Nat) (l0 n0 d0 : Int) : Walked st k0 l0 n0 d0 [] l0 n0 d0 := ⟨by simp, by cases h : walkR st k0 l0 n0 d0 <;> simp⟩
section
variable {st : Stp} {k0 : Nat} {l0 n0 d0 l n d t n' d' : Int} {es : List (Int × Int × Int)}
theorem Walked.step (h : Walked st k0 l0 n0 d0 es l n d) (hk : es.length < k0) (hn : 0 < n) (hs : st l n d = some (t, n', d')) : Walked st k0 l0 n0 d0 (es ++ [(t, n', d')]) (t + 1) n' d' := by
  refine ⟨by simp; omega, ?_⟩
  rw [h.2, show k0 - es.length = (k0 - (es ++ [(t, n', d')]).length) + 1 from by simp; omega, walkR_some hn hs, Option.map_map]
  congr 1
  funext x
  simp
theorem Walked.done (h : Walked st k0 l0 n0 d0 es l n d) (hn : n ≤ 0) : walkR st k0 l0 n0 d0 = some es := by
  rw [h.2, walkR_end hn]; simp
theorem Walked.fails (h : Walked st k0 l0 n0 d0 es l n d) (hn : 0 < n) (hs : st l n d = none) : walkR st k0 l0 n0 d0 = none := by
  rw [h.2]
  cases hk : k0 - es.length with
  | zero => rw [walkR_out hn]; rfl
  | succ j => rw [walkR_none hn hs]; rfl
theorem Walked.full (h : Walked st k0 l0 n0 d0 es l n d) (hn : 0 < n) (hk : es.length = k0) : walkR st k0 l0 n0 d0 = none := by
  rw [h.2, hk, Nat.sub_self, walkR_out hn]; rfl
end
/-- the numbers that are taken -/
def takenOf (es : List (Int × Int × Int)) : List Int := es.map (·.1)
theorem takenOf_snoc (es : List (Int × Int × Int)) (p : Int × Int × Int) : takenOf (es ++ [p]) = takenOf es ++ [p.1] := by simp [takenOf]
theorem takenOf_len (es : List (Int × Int × Int)) : (takenOf es).length = es.length := by simp [takenOf]

/- a unit fraction is taken away -/
def tB (n d t : Int) : Bool := decide (t ≤ 1000000000) && decide (d ≤ n * t) && redB (n * t - d) (d * t)
def tT (n d t : Int) : Int := if tB n d t = true then t else 0
def tN (n d t : Int) : Int := if tB n d t = true then redN (n * t - d) (d * t) else 0
def tD (n d t : Int) : Int := if tB n d t = true then redD (n * t - d) (d * t) else 0
theorem tB_parts {n d t : Int} (h : tB n d t = true) : t ≤ 1000000000 ∧ d ≤ n * t ∧ redB (n * t - d) (d * t) = true ∧ tT n d t = t ∧ tN n d t = redN (n * t - d) (d * t) ∧ tD n d t = redD (n * t - d) (d * t) := by
  refine ⟨?_, ?_, ?_, by rw [tT, if_pos h], by rw [tN, if_pos h], by rw [tD, if_pos h]⟩ <;> simp only [tB, Bool.and_eq_true, decide_eq_true_eq] at h <;> first | exact h.1.1 | exact h.1.2 | exact h.2
theorem tB_no {n d t : Int} (h : tB n d t = false) : tT n d t = 0 ∧ tN n d t = 0 ∧ tD n d t = 0 := by
  refine ⟨by rw [tT, h]; rfl, by rw [tN, h]; rfl, by rw [tD, h]; rfl⟩
theorem tB_good {n d t : Int} (hd : 1 ≤ d) (ht : 1 ≤ t) (h : tB n d t = true) : goodB (tN n d t) (tD n d t) = true := by
  obtain ⟨_, h2, h3, _, h5, h6⟩ := tB_parts h
  rw [h5, h6]
  exact good_of_redB (by omega) (mul_pos1 hd ht) h3
/-- what is left, cleared of its divisors -/
theorem red_cross {n d : Int} (hd : 1 ≤ d) (h : redB n d = true) : redN n d * d = n * redD n d ∧ 1 ≤ redD n d := by
  have hg := gcdI_pos n d (by omega)
  rw [redN, redD, if_pos h, if_pos h]
  refine ⟨?_, div_pos1 hd (by omega) (gcdI_dvdR n d)⟩
  obtain ⟨a, ha⟩ := gcdI_dvdL n d
  obtain ⟨b, hb⟩ := gcdI_dvdR n d
  generalize gcdI n d = g at *
  subst ha hb
  rw [Int.mul_ediv_cancel_left _ (by omega), Int.mul_ediv_cancel_left _ (by omega)]
  grind
theorem red_zero {d : Int} (hd : 1 ≤ d) : redN 0 d = 0 ∧ redD 0 d = 1 := by
  have h0 : gcdI 0 d = d := by unfold gcdI; rw [Int.gcd_zero_left]; omega
  have hr : redB 0 d = true := redB_yes (by rw [Int.zero_ediv]; omega) (by rw [h0, Int.ediv_self (by omega)]; omega)
  rw [redN, redD, if_pos hr, if_pos hr, h0]
  exact ⟨Int.zero_ediv _, Int.ediv_self (by omega)⟩
theorem red_nonneg {n d : Int} (hn : 0 ≤ n) : 0 ≤ redN n d := by
  unfold redN
  split
  · exact Int.ediv_nonneg hn (by unfold gcdI; omega)
  · omega
theorem red_le {n d : Int} (hn : 0 ≤ n) (hd : 1 ≤ d) : redN n d ≤ n := by
  have hg := gcdI_pos n d (by omega)
  unfold redN
  split
  · exact Int.ediv_le_self _ hn
  · omega
theorem red_pos {n d : Int} (hn : 1 ≤ n) (hd : 1 ≤ d) (h : redB n d = true) : 1 ≤ redN n d := by
  rw [redN, if_pos h]
  exact div_pos1 hn (by have := gcdI_pos n d (by omega); omega) (gcdI_dvdL n d)
/-- what is taken next has grown -/
theorem grow_next {n d t n' d' u : Int} (h0 : n * t ≤ d + n - 1) (h1 : d ≤ n * t) (hd : 1 ≤ d) (ht : 1 ≤ t) (hd' : 1 ≤ d') (hc : n' * (d * t) = (n * t - d) * d') (hu : d' ≤ n' * u) : t * (t - 1) < u := by
  have hdt := mul_pos1 hd ht
  have a1 : d' * (d * t) ≤ n' * u * (d * t) := Int.mul_le_mul_of_nonneg_right hu (by omega)
  have a2 : n' * u * (d * t) = d' * ((n * t - d) * u) := by
    have : n' * u * (d * t) = (n' * (d * t)) * u := by grind
    rw [this, hc]; grind
  rw [a2] at a1
  have a3 : d * t ≤ (n * t - d) * u := Int.le_of_mul_le_mul_left a1 (by omega)
  refine Int.not_le.1 fun hle => ?_
  have a4 : (n * t - d) * u ≤ (n * t - d) * (t * (t - 1)) := Int.mul_le_mul_of_nonneg_left hle (by omega)
  have a5 : t * d ≤ t * ((n * t - d) * (t - 1)) := by
    have e1 : (n * t - d) * (t * (t - 1)) = t * ((n * t - d) * (t - 1)) := by grind
    have e2 : d * t = t * d := Int.mul_comm _ _
    omega
  have a6 : d ≤ (n * t - d) * (t - 1) := Int.le_of_mul_le_mul_left a5 (by omega)
  have a7 : t * d ≤ t * (n * (t - 1)) := by
    have e1 : (n * t - d) * (t - 1) = t * (n * (t - 1)) - t * d + d := by grind
    omega
  have a8 : d ≤ n * (t - 1) := Int.le_of_mul_le_mul_left a7 (by omega)
  have a9 : n * (t - 1) = n * t - n := by grind
  omega
theorem grow_step {n d : Int} (hg : goodB n d = true) (hn : 1 ≤ n) (hb : tB n d (ucd n d) = true) (hn' : 1 ≤ tN n d (ucd n d)) : ucd n d * (ucd n d - 1) < ucd (tN n d (ucd n d)) (tD n d (ucd n d)) := by
  obtain ⟨_, _, d1, _⟩ := good_bounds hg
  obtain ⟨u1, u2, u3, u4⟩ := ucd_facts hn d1
  obtain ⟨_, _, h3, _, h5, h6⟩ := tB_parts hb
  obtain ⟨hc, hd'⟩ := red_cross (mul_pos1 d1 u1) h3
  rw [← h5, ← h6] at hc
  rw [← h6] at hd'
  exact grow_next u3 u2 d1 u1 hd' hc (ucd_facts hn' hd').2.1
/-- a greedy step leaves less above the line -/
theorem tN_less {n d : Int} (hg : goodB n d = true) (hn : 1 ≤ n) (hb : tB n d (ucd n d) = true) : tN n d (ucd n d) < n ∧ 0 ≤ tN n d (ucd n d) := by
  obtain ⟨_, _, d1, _⟩ := good_bounds hg
  obtain ⟨u1, u2, u3, u4⟩ := ucd_facts hn d1
  obtain ⟨_, _, h3, _, h5, h6⟩ := tB_parts hb
  rw [h5]
  have := red_le (n := n * ucd n d - d) (d := d * ucd n d) (by omega) (mul_pos1 d1 u1)
  have := red_nonneg (n := n * ucd n d - d) (d := d * ucd n d) (by omega)
  omega
/- the ways to take a number -/
def stG (p : Int → Int → Int → Int) : Stp := fun l n d => if tB n d (p l n d) = true then some (p l n d, tN n d (p l n d), tD n d (p l n d)) else none
def pick0 (_ n d : Int) : Int := ucd n d
def pick1 (l n d : Int) : Int := max l (ucd n d)
def pick2 (l n d : Int) : Int := if max l (ucd n d) % 2 = 0 then max l (ucd n d) + 1 else max l (ucd n d)
theorem stG_some {p : Int → Int → Int → Int} {l n d t n' d' : Int} (h : stG p l n d = some (t, n', d')) : t = p l n d ∧ tB n d t = true ∧ n' = tN n d t ∧ d' = tD n d t := by
  unfold stG at h
  split at h
  · rename_i hb
    simp only [Option.some.injEq, Prod.mk.injEq] at h
    obtain ⟨rfl, rfl, rfl⟩ := h
    exact ⟨rfl, hb, rfl, rfl⟩
  · cases h
theorem stG_yes {p : Int → Int → Int → Int} {l n d : Int} (h : tB n d (p l n d) = true) : stG p l n d = some (p l n d, tN n d (p l n d), tD n d (p l n d)) := if_pos h
theorem stG_no {p : Int → Int → Int → Int} {l n d : Int} (h : tB n d (p l n d) = false) : stG p l n d = none := if_neg (by rw [h]; simp)
/-- up to 1 no least number is wanted -/
theorem walk_pick : ∀ (k : Nat) {l l' n d : Int}, goodB n d = true → n ≤ d → (1 ≤ n → l ≤ ucd n d) → walkR (stG pick0) k l' n d = walkR (stG pick1) k l n d
  | 0, l, l', n, d, _, _, _ => rfl
  | k + 1, l, l', n, d, hg, hnd, hl => by
    by_cases h0 : n ≤ 0
    · rw [walkR_end h0, walkR_end h0]
    · have hn : 0 < n := by omega
      have hp : pick1 l n d = ucd n d := by have := hl (by omega); unfold pick1; omega
      obtain ⟨_, _, d1, _⟩ := good_bounds hg
      obtain ⟨u1, u2, u3, u4⟩ := ucd_facts (by omega : 1 ≤ n) d1
      cases hb : tB n d (ucd n d) with
      | false =>
        rw [walkR_none hn (stG_no (p := pick0) hb), walkR_none hn (stG_no (p := pick1) (by rw [hp]; exact hb))]
      | true =>
        have s1 := stG_yes (p := pick0) (l := l') (n := n) (d := d) hb
        have s2 := stG_yes (p := pick1) (l := l) (n := n) (d := d) (by rw [hp]; exact hb)
        rw [hp] at s2
        have hp0 : pick0 l' n d = ucd n d := rfl
        rw [hp0] at s1
        rw [walkR_some hn s1, walkR_some hn s2]
        have hg' := tB_good d1 u1 hb
        have hcr : tN n d (ucd n d) ≤ tD n d (ucd n d) := by
          obtain ⟨_, _, h3, _, h5, h6⟩ := tB_parts hb
          obtain ⟨hc, hd'⟩ := red_cross (mul_pos1 d1 u1) h3
          rw [← h5, ← h6] at hc
          rw [← h6] at hd'
          have hm := mul_pos1 d1 u1
          have h7 : n * ucd n d - d ≤ d * ucd n d := by
            have := Int.mul_le_mul_of_nonneg_right hnd (by omega : 0 ≤ ucd n d)
            omega
          have h8 := Int.mul_le_mul_of_nonneg_right h7 (by omega : 0 ≤ tD n d (ucd n d))
          rw [← hc] at h8
          rw [Int.mul_comm (d * ucd n d)] at h8
          exact Int.le_of_mul_le_mul_right h8 (by omega)
        rw [walk_pick k (l := ucd n d + 1) (l' := ucd n d + 1) hg' hcr (fun hn' => by
          have := grow_step hg (by omega) hb hn'
          by_cases h1 : ucd n d = 1
          · obtain ⟨h5, h6⟩ := (tB_parts hb).2.2.2.2
            rw [h1] at h5 u2
            have : n = d := by omega
            rw [this, Int.mul_one, Int.sub_self, (red_zero (by omega : (1:Int) ≤ d)).1] at h5
            rw [h1, this] at hn'
            omega
          · have h2 : 1 * ucd n d ≤ (ucd n d - 1) * ucd n d := Int.mul_le_mul_of_nonneg_right (by omega) (by omega)
            rw [Int.mul_comm (ucd n d - 1)] at h2
            omega)]
/-- the sum of what is taken -/
theorem tN_q {n d t : Int} (hd : 1 ≤ d) (ht : 1 ≤ t) (h : tB n d t = true) : rq n d = 1 / (t : Rat) + rq (tN n d t) (tD n d t) := by
  obtain ⟨_, _, h3, _, h5, h6⟩ := tB_parts h
  rw [h5, h6, redN_q (mul_pos1 hd ht) h3]
  have h1 := ne0 hd
  have h2 := ne0 ht
  unfold rq
  simp only [Rat.intCast_sub, Rat.intCast_mul]
  grind
end Go.Proofs.Ytleookfdngnphaa


/-
  Plain facts on near fractions: which they are, and the greedy numbers below them.
-/
namespace Go.Proofs.Ytleookfdngnphaa
open Go.RowKit
/-- a near fraction -/
def nrB (n d : Int) : Bool := goodB n d && decide (d ≤ 12) && decide (d ≤ 4 * n) && decide (n ≤ d)
/-- a near fraction and a number k for it -/
def nearB (n d k : Int) : Bool := nrB n d && decide (1 ≤ k) && (decide (k ≤ 3) || (decide (k = 4) && decide (n = d)))
theorem nrB_bad {n d : Int} (h : goodB n d = false) : nrB n d = false := by simp [nrB, h]
theorem nrB_good {n d : Int} (h : goodB n d = true) : nrB n d = (decide (d ≤ 12) && decide (d ≤ 4 * n) && decide (n ≤ d)) := by simp [nrB, h]
theorem nrB_iff {n d : Int} : nrB n d = true ↔ goodB n d = true ∧ d ≤ 12 ∧ d ≤ 4 * n ∧ n ≤ d := by simp [nrB, and_assoc]
theorem near_bad {n d k : Int} (h : nrB n d = false) : nearB n d k = false := by simp [nearB, h]
theorem near_low {n d k : Int} (h : ¬ 1 ≤ k) : nearB n d k = false := by simp [nearB, h]
theorem good_one {n d : Int} (h : goodB n d = true) (he : n = d) : n = 1 ∧ d = 1 := by
  have h2 := (goodB_iff n d).1 h
  obtain ⟨h1, h2, h3, h4, h5⟩ := h2
  subst he
  unfold gcdI at h5
  rw [Int.gcd_self] at h5
  omega
theorem near_one {k : Int} (h : 1 ≤ k) : nearB 1 1 k = decide (k ≤ 4) := by
  have h1 : nrB 1 1 = true := by decide +kernel
  by_cases h2 : k ≤ 4
  · by_cases h3 : k ≤ 3
    · simp [nearB, h1, h, h2, h3]
    · have : k = 4 := by omega
      subst this; simp [nearB, h1]
  · have h3 : ¬ k ≤ 3 := by omega
    have h4 : ¬ k = 4 := by omega
    simp [nearB, h1, h2, h3, h4]
theorem near_other {n d k : Int} (h : nrB n d = true) (hne : ¬ (n = 1 ∧ d = 1)) (hk : 1 ≤ k) : nearB n d k = decide (k ≤ 3) := by
  have hnd : ¬ n = d := fun e => hne (good_one (nrB_iff.1 h).1 e)
  simp [nearB, h, hk, hnd]
theorem near_bounds {n d k : Int} (h : nearB n d k = true) : goodB n d = true ∧ 1 ≤ n ∧ n ≤ 12 ∧ 1 ≤ d ∧ d ≤ 12 ∧ n ≤ d ∧ 1 ≤ k ∧ k ≤ 4 := by
  simp only [nearB, Bool.and_eq_true, Bool.or_eq_true, decide_eq_true_eq] at h
  obtain ⟨⟨h1, h2⟩, h3⟩ := h
  obtain ⟨g, a1, a2, a3⟩ := nrB_iff.1 h1
  obtain ⟨g1, g2, g3, g4⟩ := good_bounds g
  exact ⟨g, by omega, by omega, g3, a1, a3, h2, by omega⟩
/-- what holds for all near fractions and numbers, looked at one by one -/
theorem near_all (p : Int → Int → Int → Bool) (h : ((List.range 13).all fun n => (List.range 13).all fun d => (List.range 5).all fun k => !(nearB n d k) || p n d k) = true) {n d k : Int} (hn : nearB n d k = true) : p n d k = true := by
  obtain ⟨_, n1, n2, d1, d2, _, k1, k2⟩ := near_bounds hn
  obtain ⟨a, rfl⟩ := Int.eq_ofNat_of_zero_le (show 0 ≤ n by omega)
  obtain ⟨b, rfl⟩ := Int.eq_ofNat_of_zero_le (show 0 ≤ d by omega)
  obtain ⟨c, rfl⟩ := Int.eq_ofNat_of_zero_le (show 0 ≤ k by omega)
  have h1 := List.all_eq_true.1 h a (List.mem_range.2 (by omega))
  have h2 := List.all_eq_true.1 h1 b (List.mem_range.2 (by omega))
  have h3 := List.all_eq_true.1 h2 c (List.mem_range.2 (by omega))
  rw [hn] at h3
  simpa using h3
/-- the greedy numbers below n / d, k of them -/
def gbL : Nat → Int → Int → Option (List Int)
  | 0, _, _ => some []
  | k + 1, n, d => if (decide (1 ≤ n) && tB n d (d / n + 1)) = true then (gbL k (tN n d (d / n + 1)) (tD n d (d / n + 1))).map ((d / n + 1) :: ·) else none
def gbO (n d k : Int) : Option (List Int) := if nearB n d k = true then gbL k.toNat n d else none
theorem gbL_eq (k : Nat) (n d : Int) : gbL (k + 1) n d = if (decide (1 ≤ n) && tB n d (d / n + 1)) = true then (gbL k (tN n d (d / n + 1)) (tD n d (d / n + 1))).map ((d / n + 1) :: ·) else none := rfl
theorem gbL_step {k : Nat} {n d : Int} (h : (gbL (k + 1) n d).isSome = true) : 1 ≤ n ∧ tB n d (d / n + 1) = true ∧ gbL (k + 1) n d = (gbL k (tN n d (d / n + 1)) (tD n d (d / n + 1))).map ((d / n + 1) :: ·) := by
  rw [gbL_eq] at h ⊢
  by_cases hc : (decide (1 ≤ n) && tB n d (d / n + 1)) = true
  · rw [if_pos hc]
    simp only [Bool.and_eq_true, decide_eq_true_eq] at hc
    exact ⟨hc.1, hc.2, rfl⟩
  · rw [if_neg hc] at h; cases h
theorem gbL_len : ∀ {k : Nat} {n d : Int} {l : List Int}, gbL k n d = some l → l.length = k
  | 0, n, d, l, h => by simp [gbL] at h; subst h; rfl
  | k + 1, n, d, l, h => by
    have hs := gbL_step (k := k) (n := n) (d := d) (by rw [h]; rfl)
    rw [hs.2.2] at h
    cases hr : gbL k (tN n d (d / n + 1)) (tD n d (d / n + 1)) with
    | none => rw [hr] at h; cases h
    | some qs =>
      rw [hr] at h
      injection h with h
      subst h
      simp [gbL_len hr]
theorem near_greedy {n d k : Int} (h : nearB n d k = true) : (gbL k.toNat n d).isSome = true := near_all (fun n d k => (gbL k.toNat n d).isSome) (by decide +kernel) h
theorem gbO_no {n d k : Int} (h : nearB n d k = false) : gbO n d k = none := by rw [gbO, h]; rfl
theorem gbO_yes {n d k : Int} (h : nearB n d k = true) : gbO n d k = gbL k.toNat n d := by rw [gbO, if_pos h]
end Go.Proofs.Ytleookfdngnphaa


/-
  Plain facts on a search through lists of k numbers: its steps, and how it ends.
-/
namespace Go.Proofs.Ytleookfdngnphaa
open Go.RowKit
/-- the sum of a list on the way -/
def preS (xs : List Int) : Int × Int := (sumL 0 1 xs).getD (0, 0)
/-- what a search is made of: how many numbers; where to begin behind a last number and a sum; whether to go on by a number; what is kept -/
structure Srch (σ : Type) where
  k : Nat
  fr : Int → Int × Int → Nat → Int
  wo : σ → Int → Int × Int → Nat → Bool
  fo : σ → List Int → Int × Int → σ
  ck : σ → Int → Int × Int → Nat → Bool
  cf : Int × Int → Bool
/-- the search from a list and a next number on ends so, in so many steps -/
inductive Srch.Ends {σ : Type} (S : Srch σ) : Nat → List Int → Int → σ → σ → Prop
  | full (f : Nat) (xs : List Int) (l d : Int) (s t : σ) : (xs ++ [l]).length = S.k → Srch.Ends S f xs (l + 1) s t → Srch.Ends S (f + 1) (xs ++ [l]) d s t
  | back (f : Nat) (xs : List Int) (l d : Int) (s t : σ) : (xs ++ [l]).length < S.k → S.ck s d (preS (xs ++ [l])) (S.k - (xs ++ [l]).length) = true → S.wo s d (preS (xs ++ [l])) (S.k - (xs ++ [l]).length) = false → Srch.Ends S f xs (l + 1) s t → Srch.Ends S (f + 1) (xs ++ [l]) d s t
  | stop (d : Int) (s : σ) : 0 < S.k → S.ck s d (0, 1) S.k = true → S.wo s d (0, 1) S.k = false → Srch.Ends S 1 [] d s s
  | last (f : Nat) (xs : List Int) (d : Int) (s t : σ) : xs.length + 1 = S.k → S.ck s d (preS xs) 1 = true → S.wo s d (preS xs) 1 = true → (sumL 0 1 (xs ++ [d])).isSome = true → 1 ≤ d → d ≤ 1000000 → Srch.Ends S f (xs ++ [d]) d (S.fo s (xs ++ [d]) (preS (xs ++ [d]))) t → Srch.Ends S (f + 1) xs d s t
  | more (f : Nat) (xs : List Int) (d : Int) (s t : σ) : xs.length + 1 < S.k → S.ck s d (preS xs) (S.k - xs.length) = true → S.wo s d (preS xs) (S.k - xs.length) = true → (sumL 0 1 (xs ++ [d])).isSome = true → 1 ≤ d → d ≤ 1000000 → S.cf (preS (xs ++ [d])) = true → Srch.Ends S f (xs ++ [d]) (S.fr d (preS (xs ++ [d])) (S.k - xs.length - 1)) s t → Srch.Ends S (f + 1) xs d s t
/-- the same, reckoned -/
def Srch.run {σ : Type} (S : Srch σ) : Nat → List Int → Int → σ → Option (σ × Nat)
  | 0, _, _, _ => none
  | f + 1, xs, d, s =>
    if xs.length = S.k then
      if xs = [] then none else (S.run f xs.dropLast (xs.getLastD 0 + 1) s).map fun p => (p.1, p.2 + 1)
    else if S.k < xs.length then none
    else if S.ck s d (preS xs) (S.k - xs.length) = true then
      if S.wo s d (preS xs) (S.k - xs.length) = true then
        if (sumL 0 1 (xs ++ [d])).isSome = true ∧ 1 ≤ d ∧ d ≤ 1000000 then
          if xs.length + 1 = S.k then (S.run f (xs ++ [d]) d (S.fo s (xs ++ [d]) (preS (xs ++ [d])))).map fun p => (p.1, p.2 + 1)
          else if S.cf (preS (xs ++ [d])) = true then (S.run f (xs ++ [d]) (S.fr d (preS (xs ++ [d])) (S.k - xs.length - 1)) s).map fun p => (p.1, p.2 + 1) else none
        else none
      else if xs = [] then some (s, 1) else (S.run f xs.dropLast (xs.getLastD 0 + 1) s).map fun p => (p.1, p.2 + 1)
    else none
theorem run_map {σ : Type} {o : Option (σ × Nat)} {t : σ} {n : Nat} (h : o.map (fun p => (p.1, p.2 + 1)) = some (t, n)) : ∃ m, n = m + 1 ∧ o = some (t, m) := by
  cases o with
  | none => cases h
  | some p =>
    obtain ⟨a, b⟩ := p
    simp only [Option.map_some, Option.some.injEq, Prod.mk.injEq] at h
    exact ⟨b, h.2.symm, by rw [h.1]⟩
theorem list_snoc {xs : List Int} (h : xs ≠ []) : xs = xs.dropLast ++ [xs.getLastD 0] := by
  rw [List.getLastD_eq_getLast?, List.getLast?_eq_some_getLast h, Option.getD_some, List.dropLast_concat_getLast h]
theorem Srch.run_ends {σ : Type} (S : Srch σ) : ∀ {f : Nat} {xs : List Int} {d : Int} {s t : σ} {n : Nat}, S.run f xs d s = some (t, n) → S.Ends n xs d s t
  | 0, xs, d, s, t, n, h => by simp [Srch.run] at h
  | f + 1, xs, d, s, t, n, h => by
    unfold Srch.run at h
    by_cases hf : xs.length = S.k
    · rw [if_pos hf] at h
      by_cases hx : xs = []
      · rw [if_pos hx] at h; cases h
      · rw [if_neg hx] at h
        obtain ⟨m, rfl, hm⟩ := run_map h
        have ih := S.run_ends hm
        have hs := list_snoc hx
        generalize xs.dropLast = ys at *
        generalize xs.getLastD 0 = l at *
        subst hs
        exact .full _ _ _ _ _ _ hf ih
    · rw [if_neg hf] at h
      by_cases hk : S.k < xs.length
      · rw [if_pos hk] at h; cases h
      · rw [if_neg hk] at h
        cases hc : S.ck s d (preS xs) (S.k - xs.length) with
        | false => rw [hc] at h; simp at h
        | true =>
          rw [hc, if_pos rfl] at h
          cases hw : S.wo s d (preS xs) (S.k - xs.length) with
          | true =>
            rw [hw, if_pos rfl] at h
            by_cases ho : (sumL 0 1 (xs ++ [d])).isSome = true ∧ 1 ≤ d ∧ d ≤ 1000000
            · rw [if_pos ho] at h
              by_cases hl : xs.length + 1 = S.k
              · rw [if_pos hl] at h
                obtain ⟨m, rfl, hm⟩ := run_map h
                have e : S.k - xs.length = 1 := by omega
                rw [e] at hc hw
                exact .last _ _ _ _ _ hl hc hw ho.1 ho.2.1 ho.2.2 (S.run_ends hm)
              · rw [if_neg hl] at h
                cases hcf : S.cf (preS (xs ++ [d])) with
                | false => rw [hcf] at h; cases h
                | true =>
                  rw [hcf, if_pos rfl] at h
                  obtain ⟨m, rfl, hm⟩ := run_map h
                  exact .more _ _ _ _ _ (by omega) hc hw ho.1 ho.2.1 ho.2.2 hcf (S.run_ends hm)
            · rw [if_neg ho] at h; cases h
          | false =>
            rw [hw] at h
            simp only [Bool.false_eq_true, if_false] at h
            by_cases hx : xs = []
            · subst hx
              rw [if_pos rfl] at h
              simp only [Option.some.injEq, Prod.mk.injEq] at h
              obtain ⟨rfl, rfl⟩ := h
              have e : preS [] = (0, 1) := rfl
              rw [e, List.length_nil, Nat.sub_zero] at hc hw
              exact .stop _ _ (by simp at hf; omega) hc hw
            · rw [if_neg hx] at h
              obtain ⟨m, rfl, hm⟩ := run_map h
              have ih := S.run_ends hm
              have hs := list_snoc hx
              generalize xs.dropLast = ys at *
              generalize xs.getLastD 0 = l at *
              subst hs
              exact .back _ _ _ _ _ _ (by omega) hc hw ih
/-- a nearest sum that has been found, and its list -/
abbrev Best := List Int × Int × Int
def nsS (n d : Int) (k : Nat) (b : Int) : Srch Best where
  k := k
  fr := fun last p _ => max (last + b) (redD (n * p.2 - p.1 * d) (d * p.2) / redN (n * p.2 - p.1 * d) (d * p.2) + 1)
  wo := fun s t p more => decide (s.2.1 * p.2 * t < (p.1 * t + (more : Int) * p.2) * s.2.2)
  fo := fun _ xs p => (xs, p.1, p.2)
  ck := fun s t p more => decide (1 ≤ t) && decide (t ≤ 1000000) && goodB s.2.1 s.2.2 && decide ((p.1 * t + (more : Int) * p.2) * s.2.2 ≤ 1000000000000000000) && decide (s.2.1 * p.2 * t ≤ 1000000000000000000)
  cf := fun p => decide (p.1 * d < n * p.2) && redB (n * p.2 - p.1 * d) (d * p.2)
/-- the list that the program's search finds, and its sum -/
def nsO (n d k b : Int) : Option Best := ((nsS n d k.toNat b).run 400 [] ((nsS n d k.toNat b).fr 0 (0, 1) k.toNat) ([], 0, 1)).map (·.1)
/-- the better one of a list that has been found and of another one, by what they leave -/
def btr (best : Best) (l : List Int) (g : Int × Int) : Best := if best.1 = [] ∨ g.1 * best.2.2 < best.2.1 * g.2 then (l, g.1, g.2) else best
/-- the model's search by level k from the number t on: b numbers apart -/
def bel : Nat → Nat → Int → Best → List Int → Int × Int → Int → Option Best
  | 0, _, _, _, _, _, _ => none
  | _ + 1, 0, _, best, l, g, _ => some (btr best l g)
  | f + 1, k + 1, b, best, l, g, t =>
    if (decide (1 ≤ t) && decide (t ≤ 1000000) && goodB g.1 g.2 && decide (1 ≤ g.1) && decide (g.1 * t ≤ 1000000000) && decide (g.2 * t ≤ 1000000000)) = true then
      if best.1 ≠ [] ∧ ((k : Int) + 1) * g.2 < g.1 * t ∧ ¬ (((g.1 * t - ((k : Int) + 1) * g.2) / gcdI (g.1 * t - ((k : Int) + 1) * g.2) (g.2 * t)) * best.2.2 < best.2.1 * ((g.2 * t) / gcdI (g.1 * t - ((k : Int) + 1) * g.2) (g.2 * t))) then some best
      else if tB g.1 g.2 t = true then
        if k = 0 then some (btr best (l ++ [t]) (tN g.1 g.2 t, tD g.1 g.2 t))
        else if 1 ≤ tN g.1 g.2 t then (bel f k b best (l ++ [t]) (tN g.1 g.2 t, tD g.1 g.2 t) (max (t + b) (tD g.1 g.2 t / tN g.1 g.2 t + 1))).bind fun best' => bel f (k + 1) b best' l g (t + 1) else none
      else none
    else none
def beO (n d k b : Int) : Option Best := bel 400 k.toNat b ([], 0, 0) [] (n, d) (max 1 (d / n + 1))
/-- both find the same -/
def nsE (n d k b : Int) : Bool :=
  match nsO n d k b, beO n d k b with
  | some (l, p, q), some (l', g, e) => decide (l = l') && decide (g = redN (n * q - p * d) (d * q)) && decide (e = redD (n * q - p * d) (d * q)) && redB (n * q - p * d) (d * q) && decide (l.length = k.toNat) && decide (preS l = (p, q)) && repB l && decide (p * d ≤ n * q)
  | _, _ => false
set_option maxRecDepth 100000 in
theorem nsE_all {n d k : Int} (h : nearB n d k = true) : nsE n d k 0 = true ∧ nsE n d k 1 = true :=
  ⟨near_all (fun n d k => nsE n d k 0) (by decide +kernel) h, near_all (fun n d k => nsE n d k 1) (by decide +kernel) h⟩
end Go.Proofs.Ytleookfdngnphaa
