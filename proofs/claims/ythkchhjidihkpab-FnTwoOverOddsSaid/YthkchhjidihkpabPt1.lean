import Derived.Test.YthkchhjidihkpabPk9
import Derived.Test.YthkchhjidihkpabPk11
import Derived.Test.YthkchhjidihkpabPk15
import Derived.Test.YthkchhjidihkpabPk17

/-
  Plain facts on fractions and sums of unit fractions as rational numbers.
-/
namespace Go.Proofs.Ythkchhjidihkpab
open Go.RowKit
def rq (n d : Int) : Rat := (n : Rat) / (d : Rat)
def sumQ : List Int → Rat
  | [] => 0
  | x :: xs => 1 / (x : Rat) + sumQ xs
theorem ne0 {d : Int} (h : 1 ≤ d) : (d : Rat) ≠ 0 := by
  have : d ≠ 0 := by omega
  exact_mod_cast this
theorem rq_eq {n d m e : Int} (hd : 1 ≤ d) (he : 1 ≤ e) (h : n * e = m * d) : rq n d = rq m e := by
  have h1 := ne0 hd
  have h2 := ne0 he
  have h3 : (n : Rat) * e = m * d := by exact_mod_cast congrArg (fun x : Int => (x : Rat)) h
  unfold rq
  grind
theorem eq_rq {n d m e : Int} (hd : 1 ≤ d) (he : 1 ≤ e) (h : rq n d = rq m e) : n * e = m * d := by
  have h1 := ne0 hd
  have h2 := ne0 he
  unfold rq at h
  have h3 : (n : Rat) * e = m * d := by grind
  exact_mod_cast h3
theorem red_q {n d : Int} (hd : 1 ≤ d) : rq (n / gcdI n d) (d / gcdI n d) = rq n d := by
  have hg := gcdI_pos n d (by omega)
  have h2 := div_pos1 hd (by omega : 1 ≤ gcdI n d) (gcdI_dvdR n d)
  refine rq_eq h2 hd ?_
  obtain ⟨a, ha⟩ := gcdI_dvdL n d
  obtain ⟨b, hb⟩ := gcdI_dvdR n d
  generalize gcdI n d = g at *
  subst ha hb
  rw [Int.mul_ediv_cancel_left _ (by omega), Int.mul_ediv_cancel_left _ (by omega)]
  grind
theorem redN_q {n d : Int} (hd : 1 ≤ d) (h : redB n d = true) : rq (redN n d) (redD n d) = rq n d := by
  rw [redN, redD, if_pos h, if_pos h, red_q hd]
theorem dvd_cop {k m n : Int} (h : gcdI m k = 1) (hd : k ∣ m * n) : k ∣ n := by
  rw [← Int.natAbs_dvd_natAbs] at *
  rw [Int.natAbs_mul] at hd
  refine Nat.Coprime.dvd_of_dvd_mul_left ?_ hd
  unfold gcdI at h
  have : Int.gcd m k = 1 := by omega
  rw [Nat.Coprime, Nat.gcd_comm]
  exact this
/-- fractions in lowest terms that are the same number are the same pair -/
theorem good_same {n d m e : Int} (h : goodB n d = true) (h2 : goodB m e = true) (hq : rq n d = rq m e) : n = m ∧ d = e := by
  obtain ⟨n0, _, d1, _, g1⟩ := (goodB_iff n d).1 h
  obtain ⟨m0, _, e1, _, g2⟩ := (goodB_iff m e).1 h2
  have hx := eq_rq d1 e1 hq
  have a : d ∣ e := by
    have : d ∣ n * e := by rw [hx]; exact ⟨m, Int.mul_comm _ _⟩
    exact dvd_cop g1 this
  have b : e ∣ d := by
    have : e ∣ m * d := by rw [← hx]; exact ⟨n, Int.mul_comm _ _⟩
    exact dvd_cop g2 this
  have hde : d = e := by
    have := Int.le_of_dvd (by omega) a
    have := Int.le_of_dvd (by omega) b
    omega
  subst hde
  exact ⟨Int.eq_of_mul_eq_mul_right (by omega) hx, rfl⟩
theorem sumL_q : ∀ {xs : List Int} {n d n' d' : Int}, 1 ≤ d → (∀ x ∈ xs, 1 ≤ x) → sumL n d xs = some (n', d') → rq n' d' = rq n d + sumQ xs ∧ 1 ≤ d'
  | [], n, d, n', d', hd, _, h => by
    simp only [sumL, Option.some.injEq, Prod.mk.injEq] at h
    obtain ⟨rfl, rfl⟩ := h
    exact ⟨by simp only [sumQ]; grind, hd⟩
  | t :: ts, n, d, n', d', hd, hx, h => by
    have ht := hx t (by simp)
    have p := mul_pos1 hd ht
    cases hr : redB (n * t + d) (d * t) with
    | false => rw [sumL_no hr] at h; cases h
    | true =>
      rw [sumL_yes hr] at h
      have h1 : 1 ≤ redD (n * t + d) (d * t) := by
        rw [redD, if_pos hr]
        exact div_pos1 p (gcdI_pos _ _ (by omega)) (gcdI_dvdR _ _)
      obtain ⟨e, hd'⟩ := sumL_q h1 (fun x hx' => hx x (by simp [hx'])) h
      refine ⟨?_, hd'⟩
      rw [e, redN_q p hr]
      have a1 := ne0 hd
      have a2 := ne0 ht
      unfold rq
      simp only [sumQ, Rat.intCast_add, Rat.intCast_mul]
      grind
theorem sum_q {xs : List Int} (h : expB xs = true) : rq (sumN xs) (sumD xs) = sumQ xs := by
  have hp := expB_parts h
  have := (sumL_q (by omega) (fun x hx => (expB_small h x hx).1) hp.2.2).1
  rw [this]
  unfold rq
  simp only [Rat.intCast_zero, Rat.intCast_one]
  grind
theorem sumQ_append (xs ys : List Int) : sumQ (xs ++ ys) = sumQ xs + sumQ ys := by
  induction xs with
  | nil => show sumQ ys = 0 + sumQ ys; grind
  | cons x xs ih => simp only [List.cons_append, sumQ, ih]; grind
theorem sumQ_nonneg {xs : List Int} (h : ∀ x ∈ xs, 1 ≤ x) : 0 ≤ sumQ xs := by
  induction xs with
  | nil => simp [sumQ]
  | cons x xs ih =>
    have h1 := ih (fun y hy => h y (by simp [hy]))
    have h2 : (0 : Rat) < x := by exact_mod_cast (by have := h x (by simp); omega : 0 < x)
    have h3 : 0 < 1 / (x : Rat) := by rw [Rat.div_def]; have := Rat.inv_pos.2 h2; grind
    simp only [sumQ]
    grind
theorem le_rq {n d m e : Int} (hd : 1 ≤ d) (he : 1 ≤ e) (h : rq n d ≤ rq m e) : n * e ≤ m * d := by
  have h1 := ne0 hd
  have h2 := ne0 he
  have p1 : (0 : Rat) < d := by exact_mod_cast (by omega : 0 < d)
  have p2 : (0 : Rat) < e := by exact_mod_cast (by omega : 0 < e)
  have p := Rat.le_of_lt (Rat.mul_pos p1 p2)
  have q := Rat.mul_le_mul_of_nonneg_right h p
  unfold rq at q
  have a : (n : Rat) / d * (d * e) = n * e := by grind
  have b : (m : Rat) / e * (d * e) = m * d := by grind
  rw [a, b] at q
  exact_mod_cast q
end Go.Proofs.Ythkchhjidihkpab


/-
  Contracts of the tests of a part, and of the rest of a fraction.
-/
namespace Go.Proofs.Ythkchhjidihkpab
open Go.RowKit
def partB : List Int → List Int → Bool
  | [], _ => true
  | x :: xs, ys => hasB ys x && partB xs ys
theorem part_yes {xs ys : List Int} {x : Int} (h : hasB ys x = true) : partB (x :: xs) ys = partB xs ys := by simp [partB, h]
theorem part_no {xs ys : List Int} {x : Int} (h : hasB ys x = false) : partB (x :: xs) ys = false := by simp [partB, h]
theorem ret_bbP {a b c d : Bool} (h : a = c) (h2 : b = d) : Ending.returned (.tuple #[.bool a, .bool b]) = .returned (.tuple #[.bool c, .bool d]) := by rw [h, h2]
def bothB (xs ys : List Int) : Bool := expB xs && expB ys
end Go.Proofs.Ythkchhjidihkpab


/-
  Plain facts on sums of unit fractions as rational numbers.
-/
namespace Go.Proofs.Ythkchhjidihkpab
open Go.RowKit
theorem sumQ_ins (xs : List Int) (p : Nat) (v : Int) : sumQ (insAt xs p v) = 1 / (v : Rat) + sumQ xs := by
  have h : sumQ xs = sumQ (xs.take p) + sumQ (xs.drop p) := by rw [← sumQ_append, List.take_append_drop]
  rw [h, insAt, sumQ_append]
  simp only [sumQ]
  grind
theorem sumQ_put {xs : List Int} (h : Rising xs) (v : Int) (hv : hasB xs v = false) : sumQ (putL xs v) = 1 / (v : Rat) + sumQ xs := by
  rw [put_no h (by rw [hv]; simp), sumQ_ins]
/-- the numbers of ys that are not in xs -/
def oth (xs ys : List Int) : List Int := ys.filter (fun y => !hasB xs y)
theorem has_put {xs : List Int} (h : Rising xs) (a b : Int) : hasB (putL xs a) b = (decide (b = a) || hasB xs b) := by
  by_cases ha : hasB xs a = true
  · rw [put_yes h ha]
    by_cases hb : b = a
    · subst hb; simp [ha]
    · simp [hb]
  · rw [put_no h ha, has_ins]
theorem oth_put {xs : List Int} (h : Rising xs) (y : Int) (ys : List Int) (hy : ∀ z ∈ ys, z ≠ y) : oth (putL xs y) ys = oth xs ys := by
  unfold oth
  apply List.filter_congr
  intro z hz
  rw [has_put h]
  simp [hy z hz]
theorem putAll_oth : ∀ (ys : List Int) {xs : List Int}, Rising xs → Rising ys → (putAll xs ys).length = xs.length + (oth xs ys).length ∧ sumQ (putAll xs ys) = sumQ xs + sumQ (oth xs ys) ∧ (∀ z, z ∈ putAll xs ys ↔ z ∈ xs ∨ z ∈ ys)
  | [], xs, _, _ => ⟨by simp [putAll, oth], by show sumQ xs = sumQ xs + 0; grind, by simp [putAll]⟩
  | y :: ys, xs, hx, hy => by
    have hne : ∀ z ∈ ys, z ≠ y := fun z hz => by have := List.rel_of_pairwise_cons hy hz; omega
    obtain ⟨a, b, c⟩ := putAll_oth ys (hx.put y) (List.pairwise_cons.1 hy).2
    rw [oth_put hx y ys hne] at a b
    have hm : ∀ z, z ∈ putL xs y ↔ z = y ∨ z ∈ xs := fun z => by
      rw [← hasB_iff, has_put hx, Bool.or_eq_true, decide_eq_true_iff, hasB_iff]
    refine ⟨?_, ?_, fun z => ?_⟩
    · cases h : hasB xs y with
      | true =>
        rw [put_yes hx h] at a
        simpa [putAll, put_yes hx h, oth, h] using a
      | false =>
        rw [put_no hx (by rw [h]; simp), ins_len _ _ _ (pos_le xs y)] at a
        rw [putAll, put_no hx (by rw [h]; simp), a]
        simp [oth, h]
        omega
    · cases h : hasB xs y with
      | true =>
        rw [put_yes hx h] at b
        simpa [putAll, put_yes hx h, oth, h] using b
      | false =>
        rw [putAll, b, sumQ_put hx y h]
        simp only [oth, List.filter_cons, h, Bool.not_false, if_true, sumQ]
        grind
    · rw [putAll, c, hm, List.mem_cons]
      grind
end Go.Proofs.Ythkchhjidihkpab


/-
  Plain facts on the expansions of two parts of odd numbers: their sums, and that they have two terms.
-/
namespace Go.Proofs.Ythkchhjidihkpab
open Go.RowKit
theorem quo_sumT {N : Nat} (h1 : 1 ≤ N) : ∀ {l : List Nat}, (∀ d ∈ l, 1 ≤ d ∧ d ∣ N) → sumQ (qL (N : Int) (ints l)) = rq (l.sum : Nat) (N : Int)
  | [], _ => by
    show (0 : Rat) = rq 0 N
    unfold rq
    simp only [Rat.intCast_zero]
    grind
  | d :: l, h => by
    have ih := quo_sumT h1 (l := l) (fun x hx => h x (by simp [hx]))
    obtain ⟨hd, hdN⟩ := h d (by simp)
    have hq : 1 ≤ N / d := Nat.div_pos (Nat.le_of_dvd h1 hdN) hd
    have he : (N / d) * d = N := Nat.div_mul_cancel hdN
    have hN := ne0 (d := (N : Int)) (by omega)
    have hQ := ne0 (d := ((N / d : Nat) : Int)) (by omega)
    have h3 : (((N / d : Nat) : Int) : Rat) * ((d : Int) : Rat) = ((N : Int) : Rat) := by
      have : ((N / d : Nat) : Int) * (d : Int) = (N : Int) := by rw [← Int.natCast_mul, he]
      exact_mod_cast congrArg (fun x : Int => (x : Rat)) this
    show 1 / (((N : Int) / (d : Int) : Int) : Rat) + sumQ (qL (N : Int) (ints l)) = _
    rw [ih, show (N : Int) / (d : Int) = ((N / d : Nat) : Int) from (Int.natCast_ediv N d).symm]
    unfold rq
    rw [List.sum_cons]
    rw [show (((d + l.sum : Nat)) : Int) = (d : Int) + ((l.sum : Nat) : Int) from by omega]
    simp only [Rat.intCast_add]
    generalize (((N / d : Nat) : Int) : Rat) = q at *
    generalize ((d : Int) : Rat) = dd at *
    generalize ((N : Int) : Rat) = nn at *
    grind
theorem two_good : ∀ k : Nat, k < 100 → goodB 2 (2 * (k : Int) + 3) = true := by decide +kernel
theorem two_first : ∀ k : Nat, k < 100 → (toO (2 * (k : Int) + 3) ((k : Int) + 2)).map List.length = some 2 := by decide +kernel
/-- what an expansion that is made of a base is -/
theorem toO_says {n m : Int} {ts : List Int} (h : toO n m = some ts) (ho : oddB n = true) (h1 : n < 2 * m) (h2 : m < n) : expB ts = true ∧ sumN ts = 2 ∧ sumD ts = n ∧ hasB ts m = true ∧ (∀ t ∈ ts, (m * n) % t = 0 ∧ 1 ≤ t) ∧ 2 ≤ ts.length := by
  obtain ⟨o1, o2, o3⟩ := (oddB_iff n).1 ho
  have hx := toO_exp h
  unfold toO at h
  cases hd : dfO m (2 * m - n) with
  | none => rw [hd] at h; cases h
  | some l =>
    rw [hd, Option.bind_some] at h
    split at h
    · rename_i hc
      injection h with h
      obtain ⟨d1, d2, d3, d4, d5, d6⟩ := two_divs (by omega) (by omega) hd
      have hq1 := sumQ_put d2 m hc.1
      obtain ⟨M, S, hM, hS, m1, m2, s1, hl, hsum, hmem, hp⟩ := dfO_says hd
      subst hM
      obtain ⟨N, rfl⟩ := Int.eq_ofNat_of_zero_le (show 0 ≤ n by omega)
      have hMN : 1 ≤ M * N := Nat.mul_pos (by omega) (by omega)
      have hq2 : sumQ (toQ (N : Int) (M : Int) l) = rq (l.sum : Nat) ((M * N : Nat) : Int) := by
        unfold toQ
        rw [← Int.natCast_mul]
        exact quo_sumT hMN fun d hdl => ⟨(hmem d hdl).1, Nat.dvd_trans (Nat.dvd_of_mod_eq_zero (hmem d hdl).2.2) (Nat.dvd_mul_right M N)⟩
      rw [h] at hq1
      have hmem2 : ∀ t, t ∈ ts ↔ t = (M : Int) ∨ t ∈ toQ (N : Int) (M : Int) l := fun t => by
        rw [← h, put_no d2 (by rw [hc.1]; decide)]
        exact ins_mem
      have hsq : sumQ ts = rq 2 (N : Int) := by
        rw [hq1, hq2]
        have hMz := ne0 (d := (M : Int)) (by omega)
        have hNz := ne0 (d := (N : Int)) (by omega)
        have hsumI : ((l.sum : Nat) : Int) = 2 * (M : Int) - (N : Int) := d6
        rw [hsumI]
        unfold rq
        rw [Int.natCast_mul]
        simp only [Rat.intCast_mul, Rat.intCast_sub]
        generalize ((M : Int) : Rat) = mm at *
        generalize ((N : Int) : Rat) = nn at *
        have h2q : (((2 : Int)) : Rat) = 2 := rfl
        rw [h2q]
        grind
      have hg : goodB 2 (N : Int) = true := by
        have := two_good ((N - 3) / 2) (by omega)
        rwa [show 2 * (((N - 3) / 2 : Nat) : Int) + 3 = (N : Int) from by omega] at this
      have hs := good_same (good_sum hx) hg (by rw [sum_q hx, hsq])
      refine ⟨hx, hs.1, hs.2, (hasB_iff _ _).2 ((hmem2 _).2 (.inl rfl)), fun t ht => ?_, ?_⟩
      · have ht1 := (expB_small hx t ht).1
        rcases (hmem2 t).1 ht with rfl | ht
        · exact ⟨Int.mul_emod_right _ _, ht1⟩
        · obtain ⟨d, hdd, rfl⟩ := List.mem_map.1 ht
          obtain ⟨e1, e2⟩ := d1 d hdd
          obtain ⟨c, hcc⟩ := Int.dvd_of_emod_eq_zero e2
          refine ⟨?_, ht1⟩
          show ((M : Int) * (N : Int)) % ((M : Int) * (N : Int) / d) = 0
          rw [hcc, Int.mul_ediv_cancel_left _ (by omega)]
          exact Int.mul_emod_left _ _
      · have hlen : ts.length = (toQ (N : Int) (M : Int) l).length + 1 := by
          rw [← h, put_no d2 (by rw [hc.1]; decide), ins_len _ _ _ (pos_le _ _)]
        have hl0 : l ≠ [] := fun e => by rw [e] at d6; simp at d6; omega
        have : 0 < l.length := List.length_pos_iff.2 hl0
        rw [hlen]
        unfold toQ
        rw [qL_len, ints_len]
        omega
    · cases h
theorem bs_two {n : Int} (hf : (toO n (n / 2 + 1)).map List.length = some 2) (hall : ∀ m ts, toO n m = some ts → n / 2 + 1 ≤ m → m < n → 2 ≤ ts.length) : ∀ k : Nat, n / 2 + 1 + (k : Int) < n → ∃ p, bsF n (k + 1) = some p ∧ p.2.length = 2
  | 0, hk => by
    cases ht : toO n (n / 2 + 1) with
    | none => rw [ht] at hf; cases hf
    | some l =>
      rw [ht] at hf
      injection hf with hf
      refine ⟨(n / 2 + 1 + ((0 : Nat) : Int), l), ?_, hf⟩
      show bsStep n none (n / 2 + 1 + ((0 : Nat) : Int)) = _
      exact bsStep_first (by rw [show n / 2 + 1 + ((0 : Nat) : Int) = n / 2 + 1 from by omega]; exact ht)
  | k + 1, hk => by
    obtain ⟨p, hp, hl⟩ := bs_two hf hall k (by omega)
    rw [bsF, hp]
    cases ht : toO n (n / 2 + 1 + ((k + 1 : Nat) : Int)) with
    | none => exact ⟨p, by rw [bsStep_none ht], hl⟩
    | some l =>
      have h2 := hall _ _ ht (by omega) hk
      rw [bsStep_some ht]
      by_cases hle : lessL l p.2 = true
      · rw [if_pos hle]
        refine ⟨_, rfl, ?_⟩
        unfold lessL at hle
        show l.length = 2
        split at hle
        · omega
        · rename_i hne
          have := of_decide_eq_true hle
          omega
      · rw [if_neg hle]
        exact ⟨p, rfl, hl⟩
/-- what is told of two parts of an odd number -/
theorem two_told {n : Int} : (baO n = none ∧ twO n = none) ∨ ∃ m ts, baO n = some m ∧ twO n = some ts ∧ expB ts = true ∧ sumN ts = 2 ∧ sumD ts = n ∧ hasB ts m = true ∧ (∀ t ∈ ts, (m * n) % t = 0 ∧ 1 ≤ t) ∧ ts.length = 2 ∧ n < 2 * m ∧ m < n ∧ 3 ≤ n ∧ n ≤ 201 := by
  unfold baO twO
  by_cases h : oddB n = true
  · rw [if_pos h, if_pos h]
    obtain ⟨h1, h2, h3⟩ := (oddB_iff n).1 h
    have hf : (toO n (n / 2 + 1)).map List.length = some 2 := by
      have := two_first ((n.toNat - 3) / 2) (by omega)
      rwa [show 2 * (((n.toNat - 3) / 2 : Nat) : Int) + 3 = n from by omega, show (((n.toNat - 3) / 2 : Nat) : Int) + 2 = n / 2 + 1 from by omega] at this
    obtain ⟨p, hp, hl⟩ := bs_two hf (fun m ts ht a b => (toO_says ht h (by omega) b).2.2.2.2.2) ((n - 1 - n / 2).toNat - 1) (by omega)
    rw [show (n - 1 - n / 2).toNat - 1 + 1 = (n - 1 - n / 2).toNat from by omega] at hp
    obtain ⟨a, b, c⟩ := bsF_says hp
    obtain ⟨e1, e2, e3, e4, e5, _⟩ := toO_says a h (by omega) (by omega)
    refine .inr ⟨p.1, p.2, ?_, ?_, e1, e2, e3, e4, e5, hl, by omega, by omega, h1, h2⟩
    · unfold bsA; rw [hp]; rfl
    · unfold bsA; rw [hp]; rfl
  · rw [if_neg h, if_neg h]
    exact .inl ⟨rfl, rfl⟩
end Go.Proofs.Ythkchhjidihkpab
