
/-
  Plain facts on greedy lists: their terms grow, and they are expansions of what they were taken from.
-/
import Derived.Test.YtbjblkfibinenacWalkP
import Derived.Test.YtbjblkfibinenacSylP
namespace Go.Proofs.Ytbjblkfibinenac
open Go.RowKit
/-- each term is greater than d (d - 1), d the one before it -/
def Gr : Int → List Int → Prop
  | _, [] => True
  | lo, x :: xs => lo ≤ x ∧ x ≤ 1000000000 ∧ Gr (x * (x - 1) + 1) xs
theorem Gr.mono {lo lo' : Int} {xs : List Int} (h : Gr lo xs) (hl : lo' ≤ lo) : Gr lo' xs := by
  cases xs with
  | nil => trivial
  | cons x xs => exact ⟨by have := h.1; omega, h.2⟩
theorem sq_mono {x y : Int} (hx : 1 ≤ x) (h : x ≤ y) : x * (x - 1) ≤ y * (y - 1) := Int.mul_le_mul h (by omega) (by omega) (by omega)
theorem Gr.rise {lo : Int} : ∀ {xs : List Int} {q : Int}, 2 ≤ lo → q < lo → 0 ≤ q → Gr lo xs → rise 1 1000000000 (some q) xs = true
  | [], _, _, _, _, _ => rise_nil _ _ _
  | x :: xs, q, h2, hq, _, hg => by
    obtain ⟨a, b, c⟩ := hg
    have := sq_grow (x := x) (by omega)
    rw [rise_next (by omega) b (by omega)]
    exact Gr.rise (lo := x * (x - 1) + 1) (by omega) (by omega) (by omega) c
theorem Gr.len : ∀ (k : Nat) {xs : List Int}, k ≤ 6 → Gr (syl k) xs → xs.length ≤ 6 - k
  | _, [], _, _ => by simp
  | k, x :: xs, hk, ⟨a, b, c⟩ => by
    have h6 := syl6
    have h2 := syl_two k
    have hlt : k < 6 := by
      rcases Nat.lt_or_ge k 6 with h | h
      · exact h
      · obtain rfl : k = 6 := by omega
        omega
    have hm : syl (k + 1) ≤ x * (x - 1) + 1 := by have := sq_mono (by omega : 1 ≤ syl k) a; simp only [syl]; omega
    have := Gr.len (k + 1) (by omega) (c.mono hm)
    simp only [List.length_cons]
    omega
/-- pairs in lowest terms that are the same number are the same pair -/
theorem cop_sameG {n d m e : Int} (d1 : 1 ≤ d) (e1 : 1 ≤ e) (g1 : gcdI n d = 1) (g2 : gcdI m e = 1) (hq : rq n d = rq m e) : n = m ∧ d = e := by
  have hx := eq_rq d1 e1 hq
  have a : d ∣ e := by
    have : d ∣ n * e := by rw [hx]; exact ⟨m, Int.mul_comm _ _⟩
    exact dvd_cop g1 this
  have b : e ∣ d := by
    have : e ∣ m * d := by rw [← hx]; exact ⟨n, Int.mul_comm _ _⟩
    exact dvd_cop g2 this
  have hde : d = e := by
    have := Int.le_of_dvd (by omega) a
    have := Int.le_of_dvd (by omega) b
    omega
  subst hde
  exact ⟨Int.eq_of_mul_eq_mul_right (by omega) hx, rfl⟩
/-- a number that is a fraction is small enough in whatever form -/
theorem redB_same {n d m e : Int} (hd : 1 ≤ d) (hg : goodB m e = true) (hq : rq n d = rq m e) : redB n d = true ∧ redN n d = m ∧ redD n d = e := by
  obtain ⟨m0, m1, e0, e1, g⟩ := (goodB_iff m e).1 hg
  have hgp := gcdI_pos n d (by omega)
  have hd2 := div_pos1 hd (by omega : 1 ≤ gcdI n d) (gcdI_dvdR n d)
  obtain ⟨a, b⟩ := cop_sameG hd2 e0 (gcdI_red hd) g ((red_q hd).trans hq)
  have hr : redB n d = true := redB_yes (by omega) (by omega)
  exact ⟨hr, by rw [redN, if_pos hr, a], by rw [redD, if_pos hr, b]⟩
theorem rq_step {p q x : Int} (hq : 1 ≤ q) (hx : 1 ≤ x) : rq (p * x + q) (q * x) = rq p q + 1 / (x : Rat) := by
  have h1 := ne0 hq
  have h2 := ne0 hx
  unfold rq
  simp only [Rat.intCast_add, Rat.intCast_mul]
  grind
/-- the sums on the way -/
theorem sumL_Gr {n d : Int} (hg : goodB n d = true) (hnd : n ≤ d) : ∀ {xs : List Int} {p q P lo : Int}, goodB p q = true → q ≤ P → 1 ≤ P → P < lo → 2 ≤ lo → Gr lo xs → rq p q + sumQ xs = rq n d → sumL p q xs = some (n, d)
  | [], p, q, P, lo, hpq, _, _, _, _, _, hs => by
    have : rq p q = rq n d := by rw [← hs]; simp only [sumQ]; grind
    obtain ⟨rfl, rfl⟩ := good_same hpq hg this
    rfl
  | x :: xs, p, q, P, lo, hpq, hqP, hP, hPl, h2, ⟨a, b, c⟩, hs => by
    obtain ⟨p0, p1, q0, q1⟩ := good_bounds hpq
    obtain ⟨n0, n1, d0, d1⟩ := good_bounds hg
    have hx : 1 ≤ x := by omega
    have hqx := mul_pos1 q0 hx
    have hst := rq_step (p := p) q0 hx
    have hs' : rq (p * x + q) (q * x) + sumQ xs = rq n d := by rw [hst, ← hs]; simp only [sumQ]; grind
    have hA : 0 ≤ p * x := Int.mul_nonneg p0 (by omega)
    have hall : ∀ {lo : Int} {zs : List Int}, 1 ≤ lo → Gr lo zs → ∀ z ∈ zs, 1 ≤ z := by
      intro lo zs
      induction zs generalizing lo with
      | nil => intro _ _ z hz; cases hz
      | cons y ys ih =>
        intro hl hgr z hz
        obtain ⟨e1, e2, e3⟩ := hgr
        rcases List.mem_cons.1 hz with rfl | hz
        · omega
        · exact ih (by have := Int.mul_nonneg (by omega : 0 ≤ y) (by omega : 0 ≤ y - 1); omega) e3 z hz
    have hle : p * x + q ≤ q * x := by
      have h3 := sumQ_nonneg (hall (by have := Int.mul_nonneg (by omega : 0 ≤ x) (by omega : 0 ≤ x - 1); omega) c)
      have h4 : rq (p * x + q) (q * x) ≤ rq n d := by rw [← hs']; grind
      have h5 := le_rq hqx d0 h4
      have h6 := Int.mul_le_mul_of_nonneg_right hnd (by omega : 0 ≤ q * x)
      rw [Int.mul_comm d] at h6
      exact Int.le_of_mul_le_mul_right (Int.le_trans h5 h6) (by omega)
    have hgp := gcdI_pos (p * x + q) (q * x) (by omega)
    have key : redB (p * x + q) (q * x) = true ∧ (xs = [] ∨ q * x ≤ x * (x - 1)) := by
      cases xs with
      | nil =>
        have : rq (p * x + q) (q * x) = rq n d := by rw [← hs']; simp only [sumQ]; grind
        exact ⟨(redB_same hqx hg this).1, .inl rfl⟩
      | cons y ys =>
        have h7 : q * x ≤ (x - 1) * x := Int.mul_le_mul_of_nonneg_right (by omega) (by omega)
        rw [Int.mul_comm (x - 1)] at h7
        have h8 := c.1
        have h9 := c.2.1
        refine ⟨redB_yes ?_ ?_, .inr h7⟩
        · have := Int.ediv_le_self (gcdI (p * x + q) (q * x)) (by omega : 0 ≤ p * x + q); omega
        · have := Int.ediv_le_self (gcdI (p * x + q) (q * x)) (by omega : 0 ≤ q * x); omega
    rw [sumL_yes key.1]
    have hg' := good_of_redB (by omega : 0 ≤ p * x + q) hqx key.1
    have hs2 : rq (redN (p * x + q) (q * x)) (redD (p * x + q) (q * x)) + sumQ xs = rq n d := by rw [redN_q hqx key.1]; exact hs'
    rcases key.2 with rfl | h7
    · have : rq (redN (p * x + q) (q * x)) (redD (p * x + q) (q * x)) = rq n d := by rw [← hs2]; simp only [sumQ]; grind
      obtain ⟨e1, e2⟩ := good_same hg' hg this
      rw [e1, e2]; rfl
    · refine sumL_Gr hg hnd (P := q * x) hg' ?_ hqx (by omega : q * x < x * (x - 1) + 1) (by have := sq_grow (x := x) (by omega); omega) c hs2
      rw [redD, if_pos key.1]
      exact Int.ediv_le_self _ (by omega)
theorem exp_Gr {n d : Int} {xs : List Int} (hg : goodB n d = true) (hnd : n ≤ d) (h : Gr 2 xs) (hs : sumQ xs = rq n d) : expB xs = true ∧ sumN xs = n ∧ sumD xs = d := by
  have hl := Gr.len 0 (by omega) h
  have hz : rq 0 1 = 0 := by unfold rq; simp only [Rat.intCast_zero, Rat.intCast_one]; grind
  have hs2 : rq 0 1 + sumQ xs = rq n d := by rw [hs, hz]; grind
  have h1 := sumL_Gr hg hnd good_zero (P := 1) (by omega) (by omega) (by omega : (1 : Int) < 2) (by omega) h hs2
  exact ⟨expB_yes (by omega) (by rw [← rise_zero (q := 0) (by omega)]; exact Gr.rise (by omega) (by omega) (by omega) h) h1, sumN_of h1, sumD_of h1⟩
theorem exp_one : expB [1] = true ∧ sumN [1] = 1 ∧ sumD [1] = 1 := by decide +kernel

/-- what a greedy walk leaves -/
theorem greedy_walk : ∀ (k : Nat) {l n d : Int} {es : List (Int × Int × Int)}, goodB n d = true → n < d → walkR (stG pick0) k l n d = some es →
    sumQ (takenOf es) = rq n d ∧ Gr (max 2 (if 1 ≤ n then ucd n d else 2)) (takenOf es)
  | 0, l, n, d, es, hg, hnd, h => by
    by_cases h0 : n ≤ 0
    · rw [walkR_end h0] at h
      injection h with h
      subst h
      have := good_bounds hg
      obtain rfl : n = 0 := by omega
      exact ⟨by simp [takenOf, sumQ, rq]; grind, trivial⟩
    · rw [walkR_out (by omega)] at h; cases h
  | k + 1, l, n, d, es, hg, hnd, h => by
    by_cases h0 : n ≤ 0
    · rw [walkR_end h0] at h
      injection h with h
      subst h
      have := good_bounds hg
      obtain rfl : n = 0 := by omega
      exact ⟨by simp [takenOf, sumQ, rq]; grind, trivial⟩
    · have hn : 0 < n := by omega
      obtain ⟨_, _, d1, _⟩ := good_bounds hg
      obtain ⟨u1, u2, u3, u4⟩ := ucd_facts (by omega : 1 ≤ n) d1
      cases hb : tB n d (ucd n d) with
      | false => rw [walkR_none hn (stG_no (p := pick0) hb)] at h; cases h
      | true =>
        have s1 := stG_yes (p := pick0) (l := l) (n := n) (d := d) hb
        have hp0 : pick0 l n d = ucd n d := rfl
        rw [hp0] at s1
        rw [walkR_some hn s1] at h
        cases hr : walkR (stG pick0) k (ucd n d + 1) (tN n d (ucd n d)) (tD n d (ucd n d)) with
        | none => rw [hr] at h; cases h
        | some es' =>
          rw [hr] at h
          injection h with h
          subst h
          have u5 : 2 ≤ ucd n d := by
            rcases (by omega : ucd n d = 1 ∨ 2 ≤ ucd n d) with h1 | h1
            · rw [h1] at u2; omega
            · exact h1
          have hg' := tB_good d1 u1 hb
          have hgb := good_bounds hg'
          have hlt : tN n d (ucd n d) < tD n d (ucd n d) := by
            obtain ⟨_, _, h3, _, h5, h6⟩ := tB_parts hb
            obtain ⟨hc, hd'⟩ := red_cross (mul_pos1 d1 u1) h3
            rw [← h5, ← h6] at hc
            have h7 : n * ucd n d - d < d * ucd n d := by
              have := Int.mul_le_mul_of_nonneg_right (by omega : n ≤ d) (by omega : 0 ≤ ucd n d)
              omega
            have h8 := Int.mul_lt_mul_of_pos_right h7 (by omega : 0 < tD n d (ucd n d))
            rw [← hc, Int.mul_comm (d * ucd n d)] at h8
            exact Int.lt_of_mul_lt_mul_right h8 (by have := mul_pos1 d1 u1; omega)
          obtain ⟨a, b⟩ := greedy_walk k hg' hlt hr
          have hsq := sq_grow u5
          refine ⟨?_, ?_⟩
          · show 1 / ((ucd n d : Int) : Rat) + sumQ (takenOf es') = rq n d
            rw [a, tN_q d1 u1 hb]
          · rw [if_pos (by omega)]
            refine ⟨by show max 2 (ucd n d) ≤ ucd n d; omega, (tB_parts hb).1, ?_⟩
            show Gr (ucd n d * (ucd n d - 1) + 1) (takenOf es')
            by_cases h1 : 1 ≤ tN n d (ucd n d)
            · have := grow_step hg (by omega) hb h1
              refine b.mono ?_
              rw [if_pos h1]
              omega
            · rw [walkR_end (by omega)] at hr
              injection hr with hr
              subst hr
              trivial
/-- a greedy walk from at most 1 that ends has taken an expansion of where it began -/
theorem greedy_exp {k : Nat} {l n d : Int} {es : List (Int × Int × Int)} (hg : goodB n d = true) (hnd : n ≤ d) (h : walkR (stG pick0) k l n d = some es) : expB (takenOf es) = true ∧ sumN (takenOf es) = n ∧ sumD (takenOf es) = d := by
  by_cases h1 : n < d
  · obtain ⟨a, b⟩ := greedy_walk k hg h1 h
    exact exp_Gr hg hnd (b.mono (by omega)) a
  · obtain rfl : n = d := by omega
    have hg1 := ((goodB_iff n n).1 hg).2.2
    have hn1 : n = 1 := by
      have : gcdI n n = n := by unfold gcdI; rw [Int.gcd_self]; omega
      omega
    subst hn1
    cases k with
    | zero => rw [walkR_out (by omega)] at h; cases h
    | succ k =>
      have e1 : stG pick0 l 1 1 = some (1, 0, 1) := by
        show stG pick0 0 1 1 = _
        decide +kernel
      rw [walkR_some (by omega) e1, walkR_end (by omega)] at h
      injection h with h
      subst h
      exact exp_one
end Go.Proofs.Ytbjblkfibinenac
