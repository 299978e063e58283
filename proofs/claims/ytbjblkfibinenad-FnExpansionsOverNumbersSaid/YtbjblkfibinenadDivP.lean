
/-
  Plain facts on divisors, on the sums of some of them, on prime numbers, and on practical numbers (Stewart's theorem). No program.
-/
import Derived.Test.YtbjblkfibinenadRows
namespace Go.Proofs.Ytbjblkfibinenad
/-- the divisors of n up to k, decreasing -/
def dsc (n : Nat) : Nat → List Nat
  | 0 => []
  | k + 1 => if n % (k + 1) = 0 then (k + 1) :: dsc n k else dsc n k
/-- in how many ways a number is a sum of some numbers of a list -/
def ways : List Nat → Nat → Nat
  | [], s => if s = 0 then 1 else 0
  | d :: ds, s => ways ds s + (if d ≤ s then ways ds (s - d) else 0)
/-- the greatest sum -/
def sig (n : Nat) : Nat := (dsc n n).sum
theorem dsc_yes {n k : Nat} (h : n % (k + 1) = 0) : dsc n (k + 1) = (k + 1) :: dsc n k := by rw [dsc, if_pos h]
theorem dsc_no {n k : Nat} (h : n % (k + 1) ≠ 0) : dsc n (k + 1) = dsc n k := by rw [dsc, if_neg h]
theorem dsc_mem (n : Nat) : ∀ (k d : Nat), d ∈ dsc n k ↔ 1 ≤ d ∧ d ≤ k ∧ n % d = 0
  | 0, d => by simp [dsc]; omega
  | k + 1, d => by
    by_cases h : n % (k + 1) = 0
    · rw [dsc_yes h, List.mem_cons, dsc_mem n k d]
      constructor
      · rintro (rfl | ⟨a, b, c⟩)
        · exact ⟨by omega, Nat.le_refl _, h⟩
        · exact ⟨a, by omega, c⟩
      · rintro ⟨a, b, c⟩
        by_cases he : d = k + 1
        · exact .inl he
        · exact .inr ⟨a, by omega, c⟩
    · rw [dsc_no h, dsc_mem n k d]
      constructor
      · rintro ⟨a, b, c⟩
        exact ⟨a, by omega, c⟩
      · rintro ⟨a, b, c⟩
        refine ⟨a, ?_, c⟩
        by_cases he : d = k + 1
        · subst he; exact absurd c h
        · omega
theorem dsc_all {n d : Nat} (hn : 1 ≤ n) : d ∈ dsc n n ↔ d ∣ n := by
  rw [dsc_mem]
  constructor
  · rintro ⟨_, _, h⟩; exact Nat.dvd_of_mod_eq_zero h
  · intro h
    exact ⟨Nat.pos_of_dvd_of_pos h hn, Nat.le_of_dvd hn h, Nat.mod_eq_zero_of_dvd h⟩
theorem dsc_fall (n : Nat) : ∀ k, (dsc n k).Pairwise (fun a b => b < a)
  | 0 => by simp [dsc]
  | k + 1 => by
    by_cases h : n % (k + 1) = 0
    · rw [dsc_yes h]
      refine List.Pairwise.cons (fun b hb => ?_) (dsc_fall n k)
      have := ((dsc_mem n k b).1 hb).2.1
      omega
    · rw [dsc_no h]; exact dsc_fall n k
theorem dsc_nodup (n k : Nat) : (dsc n k).Nodup := (dsc_fall n k).imp (fun h => by omega)
theorem dsc_len (n : Nat) : ∀ k, (dsc n k).length ≤ k
  | 0 => by simp [dsc]
  | k + 1 => by
    have := dsc_len n k
    by_cases h : n % (k + 1) = 0
    · rw [dsc_yes h, List.length_cons]; omega
    · rw [dsc_no h]; omega
/-- further on there are greater ones only -/
theorem dsc_split (n j : Nat) : ∀ i, ∃ hi, dsc n (j + i) = hi ++ dsc n j ∧ ∀ d ∈ hi, j < d
  | 0 => ⟨[], rfl, by simp⟩
  | i + 1 => by
    obtain ⟨hi, e, hb⟩ := dsc_split n j i
    by_cases h : n % (j + i + 1) = 0
    · refine ⟨(j + i + 1) :: hi, by rw [show j + (i + 1) = (j + i) + 1 from rfl, dsc_yes h, e]; rfl, fun d hd => ?_⟩
      rcases List.mem_cons.1 hd with rfl | hd
      · omega
      · exact hb d hd
    · exact ⟨hi, by rw [show j + (i + 1) = (j + i) + 1 from rfl, dsc_no h, e], hb⟩
theorem dsc_same {n m : Nat} : ∀ k, (∀ d, 1 ≤ d → d ≤ k → (n % d = 0 ↔ m % d = 0)) → dsc n k = dsc m k
  | 0, _ => rfl
  | k + 1, h => by
    have ih := dsc_same k (fun d h1 h2 => h d h1 (by omega))
    have hk := h (k + 1) (by omega) (Nat.le_refl _)
    by_cases h0 : n % (k + 1) = 0
    · rw [dsc_yes h0, dsc_yes (hk.1 h0), ih]
    · rw [dsc_no h0, dsc_no (fun h1 => h0 (hk.2 h1)), ih]
theorem dsc_past {m : Nat} (hm : 1 ≤ m) (i : Nat) : dsc m (m + i) = dsc m m := by
  induction i with
  | zero => rfl
  | succ i ih =>
    rw [show m + (i + 1) = (m + i) + 1 from rfl, dsc_no, ih]
    rw [Nat.mod_eq_of_lt (by omega)]
    omega
/-- ways and sums -/
theorem ways_none {l : List Nat} : ∀ {s : Nat}, l.sum < s → ways l s = 0 := by
  induction l with
  | nil => intro s h; simp only [List.sum_nil] at h; rw [ways, if_neg (by omega)]
  | cons d ds ih =>
    intro s h
    rw [List.sum_cons] at h
    rw [ways, ih (by omega)]
    by_cases hd : d ≤ s
    · rw [if_pos hd, ih (by omega)]
    · rw [if_neg hd]
theorem ways_zero (l : List Nat) (h : ∀ d ∈ l, 1 ≤ d) : ways l 0 = 1 := by
  induction l with
  | nil => rfl
  | cons d ds ih =>
    have := h d (by simp)
    rw [ways, ih (fun x hx => h x (by simp [hx])), if_neg (by omega)]
theorem ways_pos0 (l : List Nat) : 0 < ways l 0 := by
  induction l with
  | nil => decide
  | cons d ds ih => rw [ways]; omega
theorem ways_swap (a b : Nat) (l : List Nat) (s : Nat) : ways (a :: b :: l) s = ways (b :: a :: l) s := by
  simp only [ways]
  by_cases h1 : a ≤ s <;> by_cases h2 : b ≤ s <;> simp only [h1, h2, if_true, if_false]
  · have e : s - a - b = s - b - a := by omega
    by_cases h3 : a + b ≤ s
    · rw [if_pos (by omega), if_pos (by omega), e]; omega
    · rw [if_neg (by omega), if_neg (by omega)]; omega
  · rw [if_neg (show ¬ b ≤ s - a by omega)]; omega
  · rw [if_neg (show ¬ a ≤ s - b by omega)]; omega
theorem ways_perm {l m : List Nat} (h : l.Perm m) : ∀ s, ways l s = ways m s := by
  induction h with
  | nil => intro s; rfl
  | cons x _ ih => intro s; simp only [ways, ih]
  | swap x y l => intro s; exact ways_swap y x l s
  | trans _ _ ih1 ih2 => intro s; rw [ih1, ih2]
/-- what is left out makes the other sum -/
theorem ways_turn {l : List Nat} : ∀ {s : Nat}, s ≤ l.sum → ways l (l.sum - s) = ways l s := by
  induction l with
  | nil => intro s h; simp only [List.sum_nil] at h; obtain rfl : s = 0 := by omega
           rfl
  | cons d ds ih =>
    intro s h
    rw [List.sum_cons] at h ⊢
    simp only [ways]
    by_cases h1 : s ≤ ds.sum
    · rw [if_pos (show d ≤ d + ds.sum - s by omega), show d + ds.sum - s - d = ds.sum - s from by omega, ih h1]
      by_cases h2 : d ≤ s
      · rw [if_pos h2, ← ih (show s - d ≤ ds.sum by omega), show ds.sum - (s - d) = d + ds.sum - s from by omega]; omega
      · rw [if_neg h2, ways_none (show ds.sum < d + ds.sum - s by omega)]; omega
    · rw [ways_none (show ds.sum < s by omega), if_neg (show ¬ d ≤ d + ds.sum - s by omega)]
      by_cases h2 : d ≤ s
      · rw [if_pos h2, ← ih (show s - d ≤ ds.sum by omega), show ds.sum - (s - d) = d + ds.sum - s from by omega]; omega
      · rw [if_neg h2, ways_none (show ds.sum < d + ds.sum - s by omega)]
theorem ways_app {xs ys : List Nat} : ∀ {s t : Nat}, 0 < ways xs s → 0 < ways ys t → 0 < ways (xs ++ ys) (s + t) := by
  induction xs with
  | nil =>
    intro s t h1 h2
    rw [ways] at h1
    by_cases h0 : s = 0
    · subst h0; simpa using h2
    · rw [if_neg h0] at h1; omega
  | cons d ds ih =>
    intro s t h1 h2
    rw [ways] at h1
    rw [List.cons_append, ways]
    by_cases hw : 0 < ways ds s
    · have := ih hw h2; omega
    · by_cases hd : d ≤ s
      · rw [if_pos hd] at h1
        have := ih (s := s - d) (by omega) h2
        rw [if_pos (by omega), show s + t - d = s - d + t from by omega]
        omega
      · rw [if_neg hd] at h1; omega
theorem ways_scale {c : Nat} {xs : List Nat} : ∀ {s : Nat}, 0 < ways xs s → 0 < ways (xs.map (· * c)) (s * c) := by
  induction xs with
  | nil =>
    intro s h
    rw [ways] at h
    by_cases h0 : s = 0
    · subst h0; simp [ways]
    · rw [if_neg h0] at h; omega
  | cons d ds ih =>
    intro s h
    rw [ways] at h
    rw [List.map_cons, ways]
    by_cases hw : 0 < ways ds s
    · have := ih hw; omega
    · by_cases hd : d ≤ s
      · rw [if_pos hd] at h
        have := ih (s := s - d) (by omega)
        rw [if_pos (Nat.mul_le_mul_right c hd), ← Nat.sub_mul]
        omega
      · rw [if_neg hd] at h; omega
theorem sum_scale (c : Nat) (xs : List Nat) : (xs.map (· * c)).sum = xs.sum * c := by
  induction xs with
  | nil => simp
  | cons d ds ih => rw [List.map_cons, List.sum_cons, List.sum_cons, ih, Nat.add_mul]
/-- greater ones don't help -/
theorem ways_high {hi lo : List Nat} {s : Nat} (h : ∀ d ∈ hi, s < d) : ways (hi ++ lo) s = ways lo s := by
  induction hi with
  | nil => rfl
  | cons d ds ih =>
    have := h d (by simp)
    rw [List.cons_append, ways, if_neg (by omega), ih (fun x hx => h x (by simp [hx]))]
    omega
/-- all sums are reached -/
def Full (n : Nat) : Prop := ∀ s, s ≤ sig n → 0 < ways (dsc n n) s
def Prm (p : Nat) : Prop := 2 ≤ p ∧ ∀ q, 2 ≤ q → q ∣ p → q = p
theorem prm_cop {p d : Nat} (hp : Prm p) (h : ¬ p ∣ d) : Nat.Coprime p d := by
  unfold Nat.Coprime
  have h1 : Nat.gcd p d ∣ p := Nat.gcd_dvd_left _ _
  have h2 : Nat.gcd p d ∣ d := Nat.gcd_dvd_right _ _
  have hpos : 0 < Nat.gcd p d := Nat.gcd_pos_of_pos_left _ (by have := hp.1; omega)
  by_cases h3 : 2 ≤ Nat.gcd p d
  · have := hp.2 _ h3 h1
    rw [this] at h2
    exact absurd h2 h
  · omega
theorem dvd_parts {p m : Nat} (hp : Prm p) : ∀ (a d : Nat), d ∣ m * p ^ (a + 1) → d ∣ m * p ^ a ∨ ∃ e, e ∣ m ∧ d = e * p ^ (a + 1)
  | a, d, h => by
    by_cases hd : p ∣ d
    · obtain ⟨c, rfl⟩ := hd
      have hp0 : 0 < p := by have := hp.1; omega
      have h' : p * c ∣ p * (m * p ^ a) := by rw [Nat.pow_succ] at h; rw [show p * (m * p ^ a) = m * (p ^ a * p) from by rw [Nat.mul_left_comm, Nat.mul_comm p]]; exact h
      have hc : c ∣ m * p ^ a := Nat.dvd_of_mul_dvd_mul_left hp0 h'
      match a, hc with
      | 0, hc =>
        rw [Nat.pow_zero, Nat.mul_one] at hc
        exact .inr ⟨c, hc, by rw [Nat.pow_one, Nat.mul_comm]⟩
      | a + 1, hc =>
        rcases dvd_parts hp a c hc with h1 | ⟨e, he, rfl⟩
        · refine .inl ?_
          rw [Nat.pow_succ, ← Nat.mul_assoc, Nat.mul_comm _ p]
          exact Nat.mul_dvd_mul_left p h1
        · refine .inr ⟨e, he, ?_⟩
          rw [Nat.mul_comm, Nat.mul_assoc, ← Nat.pow_succ]
    · refine .inl ?_
      have hc := (prm_cop hp hd).symm
      rw [Nat.pow_succ, ← Nat.mul_assoc] at h
      exact Nat.Coprime.dvd_of_dvd_mul_right hc h
/-- the divisors, one power more -/
theorem dsc_mul {p m : Nat} (hp : Prm p) (hm : 1 ≤ m) (hpm : ¬ p ∣ m) (a : Nat) :
    (dsc (m * p ^ (a + 1)) (m * p ^ (a + 1))).Perm ((dsc m m).map (· * p ^ (a + 1)) ++ dsc (m * p ^ a) (m * p ^ a)) := by
  have hp0 : 0 < p := by have := hp.1; omega
  have q1 : 1 ≤ m * p ^ (a + 1) := Nat.mul_pos hm (Nat.pow_pos hp0)
  have q0 : 1 ≤ m * p ^ a := Nat.mul_pos hm (Nat.pow_pos hp0)
  have hpp : 0 < p ^ (a + 1) := Nat.pow_pos hp0
  refine (List.perm_ext_iff_of_nodup (dsc_nodup _ _) ?_).2 fun d => ?_
  · rw [List.nodup_append]
    refine ⟨?_, dsc_nodup _ _, ?_⟩
    · unfold List.Nodup
      rw [List.pairwise_map]
      exact (dsc_nodup m m).imp (fun {x y} h h2 => h (Nat.eq_of_mul_eq_mul_right hpp h2))
    · intro x hx y hy hxy
      subst hxy
      obtain ⟨e, he, rfl⟩ := List.mem_map.1 hx
      rw [dsc_all hm] at he
      rw [dsc_all q0] at hy
      have h1 : p ^ a * p ∣ p ^ a * m := by
        rw [Nat.mul_comm (p ^ a) m]
        exact Nat.dvd_trans (by rw [← Nat.pow_succ]; exact Nat.dvd_mul_left _ _) hy
      exact hpm (Nat.dvd_of_mul_dvd_mul_left (Nat.pow_pos hp0) h1)
  · rw [List.mem_append, dsc_all q1, dsc_all q0, List.mem_map]
    constructor
    · intro h
      rcases dvd_parts hp a d h with h1 | ⟨e, he, rfl⟩
      · exact .inr h1
      · exact .inl ⟨e, (dsc_all hm).2 he, rfl⟩
    · rintro (⟨e, he, rfl⟩ | h)
      · exact Nat.mul_dvd_mul_right ((dsc_all hm).1 he) _
      · exact Nat.dvd_trans h (by rw [Nat.pow_succ, ← Nat.mul_assoc]; exact Nat.dvd_mul_right _ _)
theorem sig_mul {p m : Nat} (hp : Prm p) (hm : 1 ≤ m) (hpm : ¬ p ∣ m) (a : Nat) : sig (m * p ^ (a + 1)) = sig m * p ^ (a + 1) + sig (m * p ^ a) := by
  unfold sig
  rw [(dsc_mul hp hm hpm a).sum_nat, List.sum_append, sum_scale]
theorem len_mul {p m : Nat} (hp : Prm p) (hm : 1 ≤ m) (hpm : ¬ p ∣ m) : ∀ a : Nat, (dsc (m * p ^ a) (m * p ^ a)).length = (dsc m m).length * (a + 1)
  | 0 => by simp
  | a + 1 => by
    rw [(dsc_mul hp hm hpm a).length_eq, List.length_append, List.length_map, len_mul hp hm hpm a, Nat.mul_succ (dsc m m).length (a + 1)]
    omega
/-- a prime number that isn't too great, and its powers -/
theorem full_pow {p m : Nat} (hp : Prm p) (hm : 1 ≤ m) (hpm : ¬ p ∣ m) (hf : Full m) (hle : p ≤ sig m + 1) : ∀ a, Full (m * p ^ a) ∧ p ^ (a + 1) ≤ sig (m * p ^ a) + 1
  | 0 => by simpa using ⟨hf, hle⟩
  | a + 1 => by
    obtain ⟨h1, h2⟩ := full_pow hp hm hpm hf hle a
    have hp0 : 0 < p := by have := hp.1; omega
    have hpp : 0 < p ^ (a + 1) := Nat.pow_pos hp0
    have es := sig_mul hp hm hpm a
    constructor
    · intro s hs
      rw [es] at hs
      rw [ways_perm (dsc_mul hp hm hpm a)]
      by_cases hq : s / p ^ (a + 1) ≤ sig m
      · have e1 := Nat.mod_add_div s (p ^ (a + 1))
        have e2 := Nat.mod_lt s hpp
        rw [Nat.mul_comm (p ^ (a + 1))] at e1
        have := ways_app (ways_scale (c := p ^ (a + 1)) (hf _ hq)) (h1 (s % p ^ (a + 1)) (by omega))
        rw [show s / p ^ (a + 1) * p ^ (a + 1) + s % p ^ (a + 1) = s from by omega] at this
        exact this
      · have e1 : sig m * p ^ (a + 1) ≤ s := Nat.le_trans (Nat.mul_le_mul_right _ (by omega)) (Nat.div_mul_le_self s (p ^ (a + 1)))
        have := ways_app (ways_scale (c := p ^ (a + 1)) (hf (sig m) (Nat.le_refl _))) (h1 (s - sig m * p ^ (a + 1)) (by omega))
        rw [show sig m * p ^ (a + 1) + (s - sig m * p ^ (a + 1)) = s from by omega] at this
        exact this
    · rw [es]
      have e : p ^ (a + 1 + 1) = p ^ (a + 1) * p := Nat.pow_succ _ _
      have e2 : p ^ (a + 1) * p ≤ p ^ (a + 1) * (sig m + 1) := Nat.mul_le_mul_left _ hle
      rw [Nat.mul_succ, Nat.mul_comm _ (sig m)] at e2
      omega
/-- how often p divides l, and what is left -/
def strip (p : Nat) : Nat → Nat → Nat × Nat
  | 0, l => (0, l)
  | f + 1, l => if l % p = 0 then ((strip p f (l / p)).1 + 1, (strip p f (l / p)).2) else (0, l)
/-- the prime numbers from p on that divide l, and how often each one does -/
def ppw : Nat → Nat → Nat → List (Nat × Nat)
  | 0, _, _ => []
  | f + 1, p, l => if l ≤ 1 then [] else if 0 < (strip p 11 l).1 then (p, (strip p 11 l).1) :: ppw f (p + 1) (strip p 11 l).2 else ppw f (p + 1) (strip p 11 l).2
def pps (n : Nat) : List (Nat × Nat) := ppw 2000 2 n
/-- the first prime number that breaks, and the product ahead of it -/
def brk : Nat → List (Nat × Nat) → Option (Nat × Nat)
  | _, [] => none
  | m, (p, c) :: l => if sig m + 1 < p then some (p, m) else brk (m * p ^ c) l
def brkO (n : Nat) : Option (Nat × Nat) := brk 1 (pps n)
theorem strip_yes {p f l : Nat} (h : l % p = 0) : strip p (f + 1) l = ((strip p f (l / p)).1 + 1, (strip p f (l / p)).2) := by rw [strip, if_pos h]
theorem strip_no {p f l : Nat} (h : l % p ≠ 0) : strip p (f + 1) l = (0, l) := by rw [strip, if_neg h]
theorem strip_facts {p : Nat} (hp : 2 ≤ p) : ∀ (f l : Nat), 1 ≤ l → l < 2 ^ f → l = (strip p f l).2 * p ^ (strip p f l).1 ∧ ¬ p ∣ (strip p f l).2 ∧ 1 ≤ (strip p f l).2
  | 0, l, h1, h2 => by simp at h2; omega
  | f + 1, l, h1, h2 => by
    by_cases h : l % p = 0
    · have e : l / p * p = l := Nat.div_mul_cancel (Nat.dvd_of_mod_eq_zero h)
      have h3 : 1 ≤ l / p := by
        rcases Nat.eq_zero_or_pos (l / p) with h0 | h0
        · rw [h0] at e; omega
        · exact h0
      have h4 : l / p < 2 ^ f := by
        rw [Nat.pow_succ] at h2
        have : l / p * 2 ≤ l / p * p := Nat.mul_le_mul_left _ hp
        omega
      obtain ⟨a, b, c⟩ := strip_facts hp f (l / p) h3 h4
      rw [strip_yes h]
      refine ⟨?_, b, c⟩
      show l = (strip p f (l / p)).2 * p ^ ((strip p f (l / p)).1 + 1)
      rw [Nat.pow_succ, ← Nat.mul_assoc, ← a, e]
    · rw [strip_no h]
      exact ⟨by simp, fun hd => h (Nat.mod_eq_zero_of_dvd hd), h1⟩
/-- no number less than p divides it but 1 -/
def Rough (p l : Nat) : Prop := ∀ q, 2 ≤ q → q ∣ l → p ≤ q
theorem rough_prm {p l : Nat} (hp : 2 ≤ p) (h : Rough p l) (hd : p ∣ l) : Prm p :=
  ⟨hp, fun q hq hqp => Nat.le_antisymm (Nat.le_of_dvd (by omega) hqp) (h q hq (Nat.dvd_trans hqp hd))⟩
theorem rough_next {p l r : Nat} (h : Rough p l) (hr : r ∣ l) (hd : ¬ p ∣ r) : Rough (p + 1) r := fun q hq hqr => by
  have := h q hq (Nat.dvd_trans hqr hr)
  by_cases he : p = q
  · subst he; exact absurd hqr hd
  · omega
theorem rough_le {p l : Nat} (h : Rough p l) (hl : 2 ≤ l) : p ≤ l := h l hl (Nat.dvd_refl l)
/-- a list of prime numbers and how often each one divides -/
inductive Pows : Nat → Nat → List (Nat × Nat) → Prop
  | nil (p : Nat) : Pows p 1 []
  | cons {p q c r : Nat} {L : List (Nat × Nat)} : p ≤ q → Prm q → 1 ≤ c → ¬ q ∣ r → 1 ≤ r → Rough (q + 1) r → Pows (q + 1) r L → Pows p (r * q ^ c) ((q, c) :: L)
theorem Pows.mono {p p' l : Nat} {L : List (Nat × Nat)} (h : Pows p l L) (hp : p' ≤ p) : Pows p' l L := by
  cases h with
  | nil => exact .nil _
  | cons a b c d e f g => exact .cons (Nat.le_trans hp a) b c d e f g
theorem ppw_pows : ∀ (f p l : Nat), p + f = 2002 → 2 ≤ p → 1 ≤ l → l ≤ 2000 → Rough p l → Pows p l (ppw f p l)
  | 0, p, l, h1, h2, h3, h4, h5 => by
    have : ¬ 2 ≤ l := fun h => by have := rough_le h5 h; omega
    obtain rfl : l = 1 := by omega
    exact .nil _
  | f + 1, p, l, h1, h2, h3, h4, h5 => by
    rw [ppw]
    by_cases hl : l ≤ 1
    · rw [if_pos hl]
      obtain rfl : l = 1 := by omega
      exact .nil _
    · rw [if_neg hl]
      obtain ⟨a, b, c⟩ := strip_facts h2 11 l h3 (by omega)
      have hr : (strip p 11 l).2 ∣ l := by
        have h : (strip p 11 l).2 ∣ (strip p 11 l).2 * p ^ (strip p 11 l).1 := Nat.dvd_mul_right _ _
        rw [← a] at h
        exact h
      have hle := Nat.le_of_dvd h3 hr
      have hn := rough_next h5 hr b
      have ih := ppw_pows f (p + 1) (strip p 11 l).2 (by omega) (by omega) c (by omega) hn
      by_cases hc : 0 < (strip p 11 l).1
      · rw [if_pos hc]
        have hpl : p ∣ l := by
          rw [a]
          exact Nat.dvd_trans (Nat.dvd_trans (by rw [Nat.pow_one]; exact Nat.dvd_refl p) (Nat.pow_dvd_pow p (show 1 ≤ (strip p 11 l).1 from hc))) (Nat.dvd_mul_left _ _)
        have := Pows.cons (Nat.le_refl p) (rough_prm h2 h5 hpl) hc b c hn ih
        rw [← a] at this
        exact this
      · rw [if_neg hc]
        have h0 : (strip p 11 l).1 = 0 := by omega
        rw [h0, Nat.pow_zero, Nat.mul_one] at a
        rw [← a] at ih ⊢
        exact ih.mono (by omega)
theorem pps_pows {n : Nat} (h1 : 1 ≤ n) (h2 : n ≤ 2000) : Pows 2 n (pps n) := ppw_pows 2000 2 n rfl (Nat.le_refl _) h1 h2 (fun _ hq _ => hq)
/-- the divisors less than a number are those of the part without greater prime numbers -/
theorem dvd_low {k l q d : Nat} (hr : Rough q l) (hd : d < q) (h1 : 1 ≤ d) (h : d ∣ k * l) : d ∣ k := by
  refine Nat.Coprime.dvd_of_dvd_mul_right ?_ h
  unfold Nat.Coprime
  have g1 : Nat.gcd d l ∣ d := Nat.gcd_dvd_left _ _
  have g2 : Nat.gcd d l ∣ l := Nat.gcd_dvd_right _ _
  have g3 := Nat.le_of_dvd h1 g1
  have g4 : 0 < Nat.gcd d l := Nat.gcd_pos_of_pos_left _ h1
  by_cases h5 : 2 ≤ Nat.gcd d l
  · have := hr _ h5 g2; omega
  · omega
theorem sig_ge {k : Nat} (hk : 1 ≤ k) : k ≤ sig k := by
  obtain ⟨j, rfl⟩ : ∃ j, k = j + 1 := ⟨k - 1, by omega⟩
  unfold sig
  rw [dsc_yes (Nat.mod_self _), List.sum_cons]
  omega
theorem sig_one : sig 1 = 1 := by decide
theorem full_one : Full 1 := by
  intro s hs
  rw [sig_one] at hs
  have : s = 0 ∨ s = 1 := by omega
  rcases this with rfl | rfl <;> decide
theorem low_list {k l q : Nat} (hk : 1 ≤ k) (hl : 1 ≤ l) (hr : Rough q l) (hs : sig k + 1 < q) (hq : q ∣ l) : ∃ hi, dsc (k * l) (k * l) = hi ++ dsc k k ∧ (∀ d ∈ hi, q ≤ d) ∧ q ≤ hi.sum := by
  have hkk := sig_ge hk
  have hql := Nat.le_of_dvd hl hq
  have hln : l ≤ k * l := Nat.le_mul_of_pos_left l hk
  obtain ⟨hi, e, hb⟩ := dsc_split (k * l) (q - 1) (k * l - (q - 1))
  rw [show q - 1 + (k * l - (q - 1)) = k * l from by omega] at e
  have e2 : dsc (k * l) (q - 1) = dsc k k := by
    rw [dsc_same (m := k) (q - 1) (fun d h1 h2 => ⟨fun h => Nat.mod_eq_zero_of_dvd (dvd_low hr (by omega) h1 (Nat.dvd_of_mod_eq_zero h)), fun h => Nat.mod_eq_zero_of_dvd (Nat.dvd_trans (Nat.dvd_of_mod_eq_zero h) (Nat.dvd_mul_right _ _))⟩)]
    have := dsc_past hk (q - 1 - k)
    rwa [show k + (q - 1 - k) = q - 1 from by omega] at this
  rw [e2] at e
  refine ⟨hi, e, fun d hd => by have := hb d hd; omega, ?_⟩
  have hn : k * l ∈ dsc (k * l) (k * l) := (dsc_all (by omega)).2 (Nat.dvd_refl _)
  rw [e, List.mem_append] at hn
  rcases hn with hn | hn
  · have h1 : ∀ (xs : List Nat) (x : Nat), x ∈ xs → x ≤ xs.sum := by
      intro xs
      induction xs with
      | nil => intro x hx; simp at hx
      | cons y ys ih =>
        intro x hx
        rw [List.sum_cons]
        rcases List.mem_cons.1 hx with rfl | hx
        · omega
        · have := ih x hx; omega
    have := h1 hi _ hn
    omega
  · have := Nat.le_of_dvd hk ((dsc_all hk).1 hn)
    omega
/-- a prime number that breaks -/
theorem broken_facts {k l q : Nat} (hk : 1 ≤ k) (hl : 1 ≤ l) (hr : Rough q l) (hs : sig k + 1 < q) (hq : q ∣ l) (hf : Full k) :
    ways (dsc (k * l) (k * l)) (sig k + 1) = 0 ∧ (∀ s, s ≤ sig k → 0 < ways (dsc (k * l) (k * l)) s) ∧ sig k + 1 < sig (k * l) := by
  obtain ⟨hi, e, hb, hsum⟩ := low_list hk hl hr hs hq
  refine ⟨?_, fun s h => ?_, ?_⟩
  · rw [e, ways_high (fun d hd => by have := hb d hd; omega)]
    exact ways_none (Nat.lt_succ_self _)
  · rw [e, ways_high (fun d hd => by have := hb d hd; omega)]
    exact hf s h
  · have : sig (k * l) = hi.sum + sig k := by
      unfold sig
      rw [e, List.sum_append]
    omega
theorem broken_not {k l q : Nat} (hk : 1 ≤ k) (hl : 1 ≤ l) (hr : Rough q l) (hq : q ∣ l) (hf : Full (k * l)) : q ≤ sig k + 1 := by
  rcases Nat.lt_or_ge (sig k + 1) q with hs | hs
  · obtain ⟨hi, e, hb, hsum⟩ := low_list hk hl hr hs hq
    have h1 : sig (k * l) = hi.sum + sig k := by
      unfold sig
      rw [e, List.sum_append]
    have := hf (sig k + 1) (by omega)
    rw [e, ways_high (fun d hd => by have := hb d hd; omega)] at this
    have h2 : ways (dsc k k) (sig k + 1) = 0 := ways_none (Nat.lt_succ_self _)
    omega
  · exact hs
/-- what the search for a break tells -/
def BrkSays (n : Nat) : Option (Nat × Nat) → Prop
  | none => Full n
  | some (q, k) => ∃ l, n = k * l ∧ Prm q ∧ 1 ≤ k ∧ 1 ≤ l ∧ Rough q l ∧ q ∣ l ∧ sig k + 1 < q ∧ Full k ∧ Nat.Coprime k l
theorem brk_says {p l : Nat} {L : List (Nat × Nat)} (h : Pows p l L) : ∀ {m : Nat}, 1 ≤ m → Full m → Nat.Coprime m l → BrkSays (m * l) (brk m L) := by
  induction h with
  | nil => intro m hm hf _; simpa [BrkSays, brk] using hf
  | @cons p q c r L hpq hq hc hqr hr hro _ ih =>
    intro m hm hf hcop
    have hq2 := hq.1
    have hqc : q ∣ q ^ c := Nat.dvd_trans (by rw [Nat.pow_one]; exact Nat.dvd_refl q) (Nat.pow_dvd_pow q hc)
    have hcop2 : Nat.Coprime m (q ^ c) := (Nat.Coprime.coprime_dvd_left (Nat.dvd_mul_left (q ^ c) r) hcop.symm).symm
    have hcop3 : Nat.Coprime m r := (Nat.Coprime.coprime_dvd_left (Nat.dvd_mul_right r (q ^ c)) hcop.symm).symm
    have hqm : ¬ q ∣ m := fun hd => by
      have : q ∣ 1 := by rw [← hcop2]; exact Nat.dvd_gcd hd hqc
      have := Nat.le_of_dvd (by omega) this
      omega
    have hqc0 : 0 < q ^ c := Nat.pow_pos (by omega)
    rw [brk]
    by_cases hs : sig m + 1 < q
    · rw [if_pos hs]
      refine ⟨r * q ^ c, rfl, hq, hm, Nat.mul_pos hr hqc0, ?_, Nat.dvd_trans hqc (Nat.dvd_mul_left _ _), hs, hf, hcop⟩
      intro d hd hdl
      rcases Nat.lt_or_ge d q with hlt | hge
      · have h1 : Rough q (q ^ c) := by
          intro e he hec
          by_cases hqe : q ∣ e
          · exact Nat.le_of_dvd (by omega) hqe
          · have h2 : Nat.Coprime e (q ^ c) := ((prm_cop hq hqe).pow_left c).symm
            have h3 := Nat.Coprime.dvd_of_dvd_mul_left (k := e) (m := q ^ c) (n := 1) h2 (by rw [Nat.mul_one]; exact hec)
            have := Nat.le_of_dvd (by omega) h3
            omega
        have h2 := dvd_low h1 hlt (by omega) hdl
        have := hro d hd h2
        omega
      · exact hge
    · rw [if_neg hs]
      have hmr : Nat.Coprime (m * q ^ c) r := Nat.Coprime.mul_left hcop3 ((prm_cop hq hqr).pow_left c)
      have := ih (Nat.mul_pos hm hqc0) (full_pow hq hm hqm hf (by omega) c).1 hmr
      rw [Nat.mul_assoc, Nat.mul_comm (q ^ c) r] at this
      exact this
theorem brkO_says {n : Nat} (h1 : 1 ≤ n) (h2 : n ≤ 2000) : BrkSays n (brkO n) := by
  have := brk_says (pps_pows h1 h2) (Nat.le_refl 1) full_one (Nat.coprime_one_left n)
  rwa [Nat.one_mul] at this
theorem full_iff {n : Nat} (h1 : 1 ≤ n) (h2 : n ≤ 2000) : Full n ↔ brkO n = none := by
  have := brkO_says h1 h2
  cases hb : brkO n with
  | none => rw [hb] at this; exact ⟨fun _ => rfl, fun _ => this⟩
  | some x =>
    obtain ⟨q, k⟩ := x
    rw [hb] at this
    obtain ⟨l, rfl, hq, hk, hl, hr, hql, hs, hf, hc⟩ := this
    refine ⟨fun h => ?_, fun h => by cases h⟩
    have := broken_not hk hl hr hql h
    omega
/-- the greatest sum of a divisor -/
theorem dsc_less {a b : Nat} (h : a ∣ b) : ∀ k, (dsc a k).sum ≤ (dsc b k).sum
  | 0 => Nat.le_refl _
  | k + 1 => by
    have ih := dsc_less h k
    by_cases h1 : a % (k + 1) = 0
    · rw [dsc_yes h1, dsc_yes (Nat.mod_eq_zero_of_dvd (Nat.dvd_trans (Nat.dvd_of_mod_eq_zero h1) h)), List.sum_cons, List.sum_cons]; omega
    · rw [dsc_no h1]
      by_cases h2 : b % (k + 1) = 0
      · rw [dsc_yes h2, List.sum_cons]; omega
      · rw [dsc_no h2]; exact ih
theorem sig_dvd {a b : Nat} (ha : 1 ≤ a) (hb : 1 ≤ b) (h : a ∣ b) : sig a ≤ sig b := by
  have hle := Nat.le_of_dvd hb h
  have e := dsc_past ha (b - a)
  rw [show a + (b - a) = b from by omega] at e
  unfold sig
  rw [← e]
  exact dsc_less h b
theorem full_half {a b k l q : Nat} (ha : 1 ≤ a) (hk : 1 ≤ k) (hr : Rough q l) (hql : q ∣ l) (hc : Nat.Coprime k l) (he : a * b = k * l) (hf : Full a) (hqa : q ∣ a) : q ≤ sig k + 1 := by
  have e : Nat.gcd a k * Nat.gcd a l = a := by
    rw [← Nat.Coprime.gcd_mul a hc, ← he]
    exact Nat.gcd_eq_left (Nat.dvd_mul_right a b)
  have g1 : 1 ≤ Nat.gcd a k := Nat.gcd_pos_of_pos_left _ ha
  have g2 : 1 ≤ Nat.gcd a l := Nat.gcd_pos_of_pos_left _ ha
  have h1 : Rough q (Nat.gcd a l) := fun d hd hdl => hr d hd (Nat.dvd_trans hdl (Nat.gcd_dvd_right _ _))
  have h2 := broken_not g1 g2 h1 (Nat.dvd_gcd hqa hql) (by rw [e]; exact hf)
  have h3 := sig_dvd g1 hk (Nat.gcd_dvd_right a k)
  omega
/-- products of practical numbers are practical -/
theorem full_mul {a b : Nat} (ha : 1 ≤ a) (hb : 1 ≤ b) (h2 : a * b ≤ 2000) (fa : Full a) (fb : Full b) : Full (a * b) := by
  have hab : 1 ≤ a * b := Nat.mul_pos ha hb
  have h := brkO_says hab h2
  cases hbk : brkO (a * b) with
  | none => rw [hbk] at h; exact h
  | some x =>
    obtain ⟨q, k⟩ := x
    rw [hbk] at h
    obtain ⟨l, he, hq, hk, hl, hr, hql, hs, hf, hc⟩ := h
    have : q ≤ sig k + 1 := by
      by_cases hqa : q ∣ a
      · exact full_half ha hk hr hql hc he fa hqa
      · have hqb : q ∣ b := Nat.Coprime.dvd_of_dvd_mul_left (prm_cop hq hqa) (by rw [he]; exact Nat.dvd_trans hql (Nat.dvd_mul_left _ _))
        exact full_half hb hk hr hql hc (by rw [Nat.mul_comm]; exact he) fb hqb
    omega
/-- the product of the powers, and the number of the divisors -/
def prodP : Nat → List (Nat × Nat) → Nat
  | b, [] => b
  | b, (p, c) :: l => prodP (b * p ^ c) l
def cntP : Nat → List (Nat × Nat) → Nat
  | b, [] => b
  | b, (_, c) :: l => cntP (b * (c + 1)) l
theorem pows_all {p l : Nat} {L : List (Nat × Nat)} (h : Pows p l L) : ∀ {m : Nat}, 1 ≤ m → Nat.Coprime m l → prodP m L = m * l ∧ cntP (dsc m m).length L = (dsc (m * l) (m * l)).length := by
  induction h with
  | nil => intro m hm _; simp [prodP, cntP]
  | @cons p q c r L hpq hq hc hqr hr hro _ ih =>
    intro m hm hcop
    have hq2 := hq.1
    have hqc : q ∣ q ^ c := Nat.dvd_trans (by rw [Nat.pow_one]; exact Nat.dvd_refl q) (Nat.pow_dvd_pow q hc)
    have hcop2 : Nat.Coprime m (q ^ c) := (Nat.Coprime.coprime_dvd_left (Nat.dvd_mul_left (q ^ c) r) hcop.symm).symm
    have hcop3 : Nat.Coprime m r := (Nat.Coprime.coprime_dvd_left (Nat.dvd_mul_right r (q ^ c)) hcop.symm).symm
    have hqm : ¬ q ∣ m := fun hd => by
      have : q ∣ 1 := by rw [← hcop2]; exact Nat.dvd_gcd hd hqc
      have := Nat.le_of_dvd (by omega) this
      omega
    have hqc0 : 0 < q ^ c := Nat.pow_pos (by omega)
    have hmr : Nat.Coprime (m * q ^ c) r := Nat.Coprime.mul_left hcop3 ((prm_cop hq hqr).pow_left c)
    obtain ⟨e1, e2⟩ := ih (Nat.mul_pos hm hqc0) hmr
    rw [Nat.mul_assoc, Nat.mul_comm (q ^ c) r] at e1 e2
    rw [len_mul hq hm hqm c] at e2
    exact ⟨e1, e2⟩
theorem pps_all {n : Nat} (h1 : 1 ≤ n) (h2 : n ≤ 2000) : prodP 1 (pps n) = n ∧ cntP 1 (pps n) = (dsc n n).length := by
  have := pows_all (pps_pows h1 h2) (Nat.le_refl 1) (Nat.coprime_one_left n)
  rwa [Nat.one_mul, show (dsc 1 1).length = 1 from rfl] at this
end Go.Proofs.Ytbjblkfibinenad
