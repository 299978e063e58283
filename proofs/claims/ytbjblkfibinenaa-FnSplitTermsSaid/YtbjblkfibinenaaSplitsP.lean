
/-
  Plain facts on a split and the merge that undoes it.
-/
import Derived.Test.YtbjblkfibinenaaRat
namespace Go.Proofs.Ytbjblkfibinenaa
open Go.RowKit
theorem rising_ext : ∀ {xs ys : List Int}, Rising xs → Rising ys → (∀ z, z ∈ xs ↔ z ∈ ys) → xs = ys
  | [], [], _, _, _ => rfl
  | [], y :: ys, _, _, h => by have := (h y).2 (by simp); simp at this
  | x :: xs, [], _, _, h => by have := (h x).1 (by simp); simp at this
  | x :: xs, y :: ys, hx, hy, h => by
    have e : x = y := by
      have a := (h x).1 (by simp)
      have b := (h y).2 (by simp)
      rcases List.mem_cons.1 a with a | a
      · exact a
      · rcases List.mem_cons.1 b with b | b
        · exact b.symm
        · have := List.rel_of_pairwise_cons hx b
          have := List.rel_of_pairwise_cons hy a
          omega
    subst e
    congr 1
    refine rising_ext (List.pairwise_cons.1 hx).2 (List.pairwise_cons.1 hy).2 fun z => ?_
    constructor
    · intro hz
      have := List.rel_of_pairwise_cons hx hz
      rcases List.mem_cons.1 ((h z).1 (by simp [hz])) with e | e
      · omega
      · exact e
    · intro hz
      have := List.rel_of_pairwise_cons hy hz
      rcases List.mem_cons.1 ((h z).2 (by simp [hz])) with e | e
      · omega
      · exact e
theorem rest_iff {xs : List Int} (h : Rising xs) {i : Nat} {d : Int} (hd : xs[i]? = some d) (z : Int) : z ∈ restL xs i ↔ z ∈ xs ∧ z ≠ d := by
  have hi : i < xs.length := (List.getElem?_eq_some_iff.1 hd).1
  have hsp : xs = xs.take i ++ d :: xs.drop (i + 1) := by
    rw [← drop_at hd, List.take_append_drop]
  have hp : Rising (xs.take i ++ d :: xs.drop (i + 1)) := by rw [← hsp]; exact h
  obtain ⟨_, h2, h3⟩ := List.pairwise_append.1 hp
  have h4 := List.pairwise_cons.1 h2
  constructor
  · intro hz
    refine ⟨rest_mem hz, ?_⟩
    unfold restL at hz
    rcases List.mem_append.1 hz with hz | hz
    · have := h3 z hz d (by simp); omega
    · have := h4.1 z hz; omega
  · rintro ⟨hz, hne⟩
    rw [hsp] at hz
    unfold restL
    rcases List.mem_append.1 hz with hz | hz
    · exact List.mem_append.2 (.inl hz)
    · rcases List.mem_cons.1 hz with hz | hz
      · exact absurd hz hne
      · exact List.mem_append.2 (.inr hz)
theorem sumQ_rest {xs : List Int} {i : Nat} {d : Int} (hd : xs[i]? = some d) : sumQ xs = 1 / (d : Rat) + sumQ (restL xs i) := by
  have hi : i < xs.length := (List.getElem?_eq_some_iff.1 hd).1
  have hsp : xs = xs.take i ++ d :: xs.drop (i + 1) := by
    rw [← drop_at hd, List.take_append_drop]
  rw [show sumQ xs = sumQ (xs.take i ++ d :: xs.drop (i + 1)) by rw [← hsp], sumQ_append, restL, sumQ_append]
  simp only [sumQ]
  grind
/-- what an exchange of one term for two that are its sum leaves -/
theorem repl_facts {xs : List Int} {i : Nat} {d a b : Int} (hx : expB xs = true) (hd : xs[i]? = some d) (hab : a ≠ b) (hr : replB xs i a b = true) :
    expB (replL xs i a b) = true ∧ (replL xs i a b).length = xs.length + 1 ∧ (∀ z, z ∈ replL xs i a b ↔ z = a ∨ z = b ∨ (z ∈ xs ∧ z ≠ d)) ∧ sumQ (replL xs i a b) = 1 / (a : Rat) + 1 / (b : Rat) + sumQ (restL xs i) ∧ Rising (replL xs i a b) := by
  have hs := expB_rising hx
  have hi : i < xs.length := (List.getElem?_eq_some_iff.1 hd).1
  have hr0 := hr
  simp only [replB, Bool.and_eq_true, Bool.not_eq_true'] at hr
  obtain ⟨⟨ha, hb⟩, he⟩ := hr
  have hrr := hs.rest i
  have hb2 : hasB (putL (restL xs i) a) b = false := by rw [has_put hrr, hb]; simp; exact fun h => hab h.symm
  have e : replL xs i a b = putL (putL (restL xs i) a) b := by rw [replL, if_pos hr0]
  rw [e]
  have p1 := put_no hrr (v := a) (by rw [ha]; simp)
  have p2 := put_no (hrr.put a) (v := b) (by rw [hb2]; simp)
  refine ⟨he, ?_, fun z => ?_, ?_, (hrr.put a).put b⟩
  · rw [p2, ins_len _ _ _ (pos_le _ _), p1, ins_len _ _ _ (pos_le _ _)]
    simp [restL]; omega
  · rw [← hasB_iff, has_put (hrr.put a), has_put hrr, Bool.or_eq_true, Bool.or_eq_true, decide_eq_true_iff, decide_eq_true_iff, hasB_iff, rest_iff hs hd]
    grind
  · rw [sumQ_put (hrr.put a) b hb2, sumQ_put hrr a ha]
    grind
theorem split_q {d a b : Int} (hd : 1 ≤ d) (ha : 1 ≤ a) (hb : 1 ≤ b) (h : a * b = d * (a + b)) : 1 / (d : Rat) = 1 / (a : Rat) + 1 / (b : Rat) := by
  have h1 := ne0 hd
  have h2 := ne0 ha
  have h3 := ne0 hb
  have h4 : (a : Rat) * b = d * (a + b) := by exact_mod_cast congrArg (fun x : Int => (x : Rat)) h
  grind
theorem sums_same {xs ys : List Int} (hx : expB xs = true) (hy : expB ys = true) (h : sumQ ys = sumQ xs) : eN ys = sumN xs ∧ eD ys = sumD xs := by
  rw [eN, eD, if_pos hy, if_pos hy]
  exact good_same (good_sum hy) (good_sum hx) (by rw [sum_q hy, sum_q hx, h])
theorem st_facts {xs : List Int} {i : Int} (h : stB xs i = true) : expB xs = true ∧ 0 ≤ i ∧ i < xs.length ∧ expB (stL xs i) = true ∧ (stL xs i).length = xs.length + 1 ∧ hasB (stL xs i) (termAt xs i + 1) = true ∧ eN (stL xs i) = sumN xs ∧ eD (stL xs i) = sumD xs := by
  have h0 := h
  simp only [stB, idxB, Bool.and_eq_true, decide_eq_true_eq, Bool.not_eq_true', decide_eq_false_iff_not] at h
  obtain ⟨⟨⟨⟨hx, i0⟩, i1⟩, h1⟩, hr⟩ := h
  obtain ⟨j, rfl⟩ := Int.eq_ofNat_of_zero_le i0
  have hj : j < xs.length := by omega
  have hd : xs[j]? = some xs[j] := List.getElem?_eq_getElem hj
  have ht := term_at hd
  have hsm := expB_small hx _ (List.mem_of_getElem? hd)
  rw [ht] at h1 hr ⊢
  generalize xs[j] = d at *
  have hne := (st_mul hsm.1 hsm.2).2.2 h1
  rw [Int.toNat_natCast] at hr
  obtain ⟨r1, r2, r3, r4, _⟩ := repl_facts hx hd (fun e => hne e.symm) hr
  have e : stL xs j = replL xs j (d + 1) (d * (d + 1)) := by rw [stL, if_pos h0, Int.toNat_natCast, ht]
  rw [e]
  have hq := split_q (a := d + 1) (b := d * (d + 1)) hsm.1 (by omega) (mul_pos1 hsm.1 (by omega)) (by grind)
  have hs := sums_same hx r1 (by rw [r4, sumQ_rest hd, hq])
  exact ⟨hx, i0, i1, r1, r2, (hasB_iff _ _).2 ((r3 _).2 (.inl rfl)), hs.1, hs.2⟩
/-- the two numbers that a split by two numbers makes -/
theorem sb_nums {d p q : Int} (d1 : 1 ≤ d) (d2 : d ≤ 1000000000) (p1 : 1 ≤ p) (pq : p < q) (q1 : q ≤ 1000) (h4 : d * (p + q) % p = 0) (h5 : d * (p + q) % q = 0) :
    d < d * (p + q) / q ∧ d * (p + q) / q < d * (p + q) / p ∧ d * (p + q) / p * (d * (p + q) / q) = d * (d * (p + q) / p + d * (p + q) / q) ∧ d * (p + q) / p ≤ 2000000000000 := by
  obtain ⟨m1, m2⟩ := sb_mul d1 d2 p1 pq q1
  have a := Int.mul_ediv_add_emod (d * (p + q)) p
  have b := Int.mul_ediv_add_emod (d * (p + q)) q
  have c := Int.ediv_le_self p (by omega : 0 ≤ d * (p + q))
  rw [h4] at a
  rw [h5] at b
  have hr : d * (p + q) = d * p + d * q := Int.mul_add _ _ _
  generalize d * (p + q) / p = u at *
  generalize d * (p + q) / q = v at *
  rw [hr] at a b m1 m2 c
  have a' : p * u = d * p + d * q := by omega
  have b' : q * v = d * p + d * q := by omega
  have hp := mul_pos1 d1 p1
  have l1 : d < v := by
    rcases Int.lt_or_le d v with h | h
    · exact h
    · have := Int.mul_le_mul_of_nonneg_left h (by omega : 0 ≤ q)
      have e : q * d = d * q := Int.mul_comm _ _
      omega
  have l2 : v < u := by
    rcases Int.lt_or_le v u with h | h
    · exact h
    · have := Int.mul_le_mul_of_nonneg_left h (by omega : 0 ≤ p)
      have e := Int.mul_le_mul_of_nonneg_right (by omega : p + 1 ≤ q) (by omega : 0 ≤ v)
      rw [Int.add_mul] at e
      omega
  refine ⟨l1, l2, ?_, by omega⟩
  have k : p * q * (u * v) = p * q * (d * (u + v)) := by grind
  exact Int.eq_of_mul_eq_mul_left (by have := mul_pos1 p1 (by omega : 1 ≤ q); omega) k
theorem sb_facts {xs : List Int} {i p q : Int} (h : sbB xs i p q = true) : ∃ (j : Nat) (d a b : Int), i = j ∧ expB xs = true ∧ xs[j]? = some d ∧ 1 ≤ d ∧ d ≤ 1000000000 ∧ 1 ≤ p ∧ p < q ∧ q ≤ 1000 ∧ d * (p + q) % p = 0 ∧ d * (p + q) % q = 0 ∧ a = d * (p + q) / p ∧ b = d * (p + q) / q ∧ d < b ∧ b < a ∧ a * b = d * (a + b) ∧
    expB (sbL xs i p q) = true ∧ (sbL xs i p q).length = xs.length + 1 ∧ (∀ z, z ∈ sbL xs i p q ↔ z = a ∨ z = b ∨ (z ∈ xs ∧ z ≠ d)) ∧ Rising (sbL xs i p q) ∧ eN (sbL xs i p q) = sumN xs ∧ eD (sbL xs i p q) = sumD xs ∧ ¬ a ∈ restL xs j ∧ ¬ b ∈ restL xs j := by
  have h0 := h
  simp only [sbB, idxB, Bool.and_eq_true, decide_eq_true_eq] at h
  obtain ⟨⟨⟨⟨⟨⟨⟨⟨hx, i0⟩, i1⟩, p1⟩, pq⟩, q1⟩, h4⟩, h5⟩, hr⟩ := h
  obtain ⟨j, rfl⟩ := Int.eq_ofNat_of_zero_le i0
  have hj : j < xs.length := by omega
  have hd : xs[j]? = some xs[j] := List.getElem?_eq_getElem hj
  have ht := term_at hd
  have hsm := expB_small hx _ (List.mem_of_getElem? hd)
  have e : sbL xs j p q = replL xs j (termAt xs j * (p + q) / p) (termAt xs j * (p + q) / q) := by rw [sbL, if_pos h0, Int.toNat_natCast]
  rw [e]
  rw [ht] at h4 h5 hr ⊢
  rw [Int.toNat_natCast] at hr
  generalize xs[j] = d at *
  obtain ⟨n1, n2, n3, n4⟩ := sb_nums hsm.1 hsm.2 p1 pq q1 h4 h5
  obtain ⟨r1, r2, r3, r4, r5⟩ := repl_facts hx hd (by omega) hr
  have hq := split_q (a := d * (p + q) / p) (b := d * (p + q) / q) hsm.1 (by omega) (by omega) n3
  have hs := sums_same hx r1 (by rw [r4, sumQ_rest hd, hq])
  simp only [replB, Bool.and_eq_true, Bool.not_eq_true'] at hr
  refine ⟨j, d, _, _, rfl, hx, hd, hsm.1, hsm.2, p1, pq, q1, h4, h5, rfl, rfl, n1, n2, n3, r1, r2, r3, r5, hs.1, hs.2, fun hm => ?_, fun hm => ?_⟩
  · have := (hasB_iff _ _).2 hm; rw [hr.1.1] at this; cases this
  · have := (hasB_iff _ _).2 hm; rw [hr.1.2] at this; cases this
theorem keep_iff (ls : List Int) (z : Int) : ∀ (ys : List Int) (k : Nat), z ∈ keepL ls k ys ↔ ∃ j : Nat, ys[j]? = some z ∧ hasB ls ((k + j : Nat) : Int) = false
  | [], k => by simp [keepL]
  | y :: ys, k => by
    rw [keepL]
    have ih := keep_iff ls z ys (k + 1)
    have hsplit : (∃ j : Nat, (y :: ys)[j]? = some z ∧ hasB ls ((k + j : Nat) : Int) = false) ↔ (y = z ∧ hasB ls (k : Int) = false) ∨ ∃ j : Nat, ys[j]? = some z ∧ hasB ls ((k + 1 + j : Nat) : Int) = false := by
      constructor
      · rintro ⟨j, h1, h2⟩
        cases j with
        | zero => exact .inl ⟨by simpa using h1, by simpa using h2⟩
        | succ j => exact .inr ⟨j, by simpa using h1, by rw [show k + 1 + j = k + (j + 1) by omega]; exact h2⟩
      · rintro (⟨h1, h2⟩ | ⟨j, h1, h2⟩)
        · exact ⟨0, by simpa using h1, by simpa using h2⟩
        · exact ⟨j + 1, by simpa using h1, by rw [show k + (j + 1) = k + 1 + j by omega]; exact h2⟩
    rw [hsplit, ← ih]
    cases hb : hasB ls (k : Int) with
    | true => simp
    | false => simp [eq_comm]
/-- the two that a split has made, merged again -/
theorem merge_back {xs out : List Int} {j x y : Nat} {d a b : Int} (hx : expB xs = true) (hd : xs[j]? = some d) (hr : Rising out) (hm : ∀ z, z ∈ out ↔ z = a ∨ z = b ∨ (z ∈ xs ∧ z ≠ d)) (ha : ¬ a ∈ restL xs j) (hb : ¬ b ∈ restL xs j) (h1 : out[x]? = some b) (h2 : out[y]? = some a) :
    keepL [(x : Int), (y : Int)] 0 out = restL xs j ∧ intoB (restL xs j) [d] = true ∧ intoR (restL xs j) [d] = xs := by
  have hs := expB_rising hx
  have hk : keepL [(x : Int), (y : Int)] 0 out = restL xs j := by
    refine rising_ext (hr.keep _ _) (hs.rest j) fun z => ?_
    rw [keep_iff, rest_iff hs hd]
    constructor
    · rintro ⟨k, hk, hn⟩
      simp only [hasB, Bool.or_eq_false_iff, decide_eq_false_iff_not, Nat.zero_add] at hn
      have hz := (hm z).1 (List.mem_of_getElem? hk)
      have nb : z ≠ b := fun e => by
        subst e
        rcases Nat.lt_trichotomy k x with h | h | h
        · have := hr.lt h hk h1; omega
        · omega
        · have := hr.lt h h1 hk; omega
      have na : z ≠ a := fun e => by
        subst e
        rcases Nat.lt_trichotomy k y with h | h | h
        · have := hr.lt h hk h2; omega
        · omega
        · have := hr.lt h h2 hk; omega
      rcases hz with h | h | h
      · exact absurd h na
      · exact absurd h nb
      · exact h
    · rintro ⟨hz, hne⟩
      obtain ⟨k, hk⟩ := List.getElem?_of_mem ((hm z).2 (.inr (.inr ⟨hz, hne⟩)))
      refine ⟨k, hk, ?_⟩
      have hzr : z ∈ restL xs j := (rest_iff hs hd z).2 ⟨hz, hne⟩
      simp only [hasB, Bool.or_eq_false_iff, decide_eq_false_iff_not, Nat.zero_add]
      refine ⟨fun e => ?_, fun e => ?_, trivial⟩
      · have : x = k := by omega
        subst this
        rw [h1] at hk; injection hk with hk; subst hk
        exact hb hzr
      · have : y = k := by omega
        subst this
        rw [h2] at hk; injection hk with hk; subst hk
        exact ha hzr
  have hnd : hasB (restL xs j) d = false := by
    cases h : hasB (restL xs j) d with
    | false => rfl
    | true => exact absurd rfl ((rest_iff hs hd d).1 ((hasB_iff _ _).1 h)).2
  have hnd' : ¬ hasB (restL xs j) d = true := by rw [hnd]; simp
  have he : insAt (restL xs j) (pos (restL xs j) d) d = xs := by
    refine rising_ext ((hs.rest j).ins hnd') hs fun z => ?_
    rw [ins_mem, rest_iff hs hd]
    constructor
    · rintro (rfl | h)
      · exact List.mem_of_getElem? hd
      · exact h.1
    · intro h
      by_cases hz : z = d
      · exact .inl hz
      · exact .inr ⟨h, hz⟩
  have hi : intoL (restL xs j) [d] = some xs := by rw [into_no hnd, he]; rfl
  exact ⟨hk, by rw [(into_some hi).1, hx], by rw [(into_some hi).2, hx, if_pos rfl]⟩
end Go.Proofs.Ytbjblkfibinenaa
