import Derived.Test.YtbjblkfibinenadGreatDoorPk22
import Derived.Test.YtbjblkfibinenadGreatDoorPm2
import Derived.Test.YtbjblkfibinenadGreatDoorPk8
import Derived.Test.YtbjblkfibinenadGreatDoorPk23

/-
  Plain facts on the method by factorials: what its digits and its expansion are like.
-/
namespace Go.Proofs.YtbjblkfibinenadGreatDoor
open Go.RowKit
theorem lfG_le {den : Int} : ∀ (j n k : Nat), 1 ≤ n → n ≤ k → k < n + j → fac k % den = 0 → lfG den j n ≠ 0 ∧ lfG den j n ≤ (k : Int)
  | 0, n, k, _, h2, h3, _ => by omega
  | j + 1, n, k, h1, h2, h3, h4 => by
    by_cases h0 : fac n % den = 0
    · rw [lfG_yes h0]; omega
    · rw [lfG_no h0]
      have hne : n ≠ k := fun e => h0 (by rw [e]; exact h4)
      exact lfG_le j (n + 1) k (by omega) (by omega) (by omega) h4
theorem leastF_le {den : Int} {k : Nat} (h1 : 1 ≤ k) (h2 : k ≤ 12) (h : fac k % den = 0) : leastF den ≠ 0 ∧ leastF den ≤ (k : Int) := lfG_le 12 1 k (by omega) h1 (by omega) h
theorem fac_dvd {m n : Nat} (h : m ≤ n) : fac m ∣ fac n := by
  induction n with
  | zero => obtain rfl : m = 0 := by omega
            exact ⟨1, by simp [fac]⟩
  | succ n ih =>
    rcases Nat.lt_or_ge n m with h1 | h1
    · obtain rfl : m = n + 1 := by omega
      exact ⟨1, by simp⟩
    · obtain ⟨q, hq⟩ := ih (by omega)
      exact ⟨q * ((n + 1 : Nat) : Int), by rw [← Int.mul_assoc, ← hq]; rfl⟩
def InR (ds : List Int) : Prop := ∀ (i : Nat) (x : Int), ds[i]? = some x → 0 ≤ x ∧ x ≤ (i : Int) + 1
/-- digits are got back from their number -/
theorem dig_hor {ds : List Int} (h : InR ds) : ∀ k, k ≤ ds.length → digL (k + 1) (ffN (ds.take k)) = ds.take k
  | 0, _ => by simp [digL]
  | k + 1, hk => by
    obtain ⟨x, hx⟩ : ∃ x, ds[k]? = some x := ⟨_, List.getElem?_eq_getElem (by omega)⟩
    obtain ⟨x0, x1⟩ := h k x hx
    have ih := dig_hor h k (by omega)
    have hl : (ds.take k).length = k := by rw [List.length_take]; omega
    have e : ds.take (k + 1) = ds.take k ++ [x] := by rw [List.take_add_one, hx]; rfl
    rw [e, ffN_snoc, hl, digL]
    have e1 : (ffN (ds.take k) * ((k + 2 : Nat) : Int) + x) / ((k + 2 : Nat) : Int) = ffN (ds.take k) := by
      rw [Int.add_comm, Int.add_mul_ediv_right _ _ (by omega), Int.ediv_eq_zero_of_lt x0 (by omega)]; omega
    have e2 : (ffN (ds.take k) * ((k + 2 : Nat) : Int) + x) % ((k + 2 : Nat) : Int) = x := by
      rw [Int.add_comm, Int.add_mul_emod_self_right]; exact Int.emod_eq_of_lt x0 (by omega)
    rw [e1, e2, ih]
/-- and the other way round -/
theorem hor_dig : ∀ (i : Nat) (L : Int), 0 ≤ L → L < fac i → ffN (digL i L) = L
  | 0, L, h0, h1 => by simp [fac] at h1; obtain rfl : L = 0 := by omega
                       rfl
  | 1, L, h0, h1 => by simp [fac] at h1; obtain rfl : L = 0 := by omega
                       rfl
  | i + 2, L, h0, h1 => by
    have hf : fac (i + 2) = fac (i + 1) * ((i + 2 : Nat) : Int) := rfl
    have hd : L / ((i + 2 : Nat) : Int) < fac (i + 1) := Int.ediv_lt_of_lt_mul (by omega) (by rw [← hf]; exact h1)
    have ih := hor_dig (i + 1) _ (Int.ediv_nonneg h0 (by omega)) hd
    have e := Int.mul_ediv_add_emod L ((i + 2 : Nat) : Int)
    rw [digL, ffN_snoc, digL_len, ih, show i + 1 - 1 + 2 = i + 2 by omega, Int.mul_comm]
    exact e
theorem sumL_snoc : ∀ {xs : List Int} {n d t : Int}, sumL n d (xs ++ [t]) = (sumL n d xs).bind fun p => sumL p.1 p.2 [t]
  | [], n, d, t => rfl
  | x :: xs, n, d, t => by
    rw [List.cons_append]
    cases hr : redB (n * x + d) (d * x) with
    | false => rw [sumL_no hr, sumL_no hr]; rfl
    | true => rw [sumL_yes hr, sumL_yes hr, sumL_snoc]
/-- the sums of the terms of digits, one after the other -/
theorem fac_sum {ds : List Int} (h : InR ds) (hl : ds.length ≤ 11) : ∀ k, k ≤ ds.length → sumL 0 1 (facT 0 (ds.take k)) = some (ffA (ds.take k), ffC (ds.take k))
  | 0, _ => by rw [List.take_zero]; decide +kernel
  | k + 1, hk => by
    obtain ⟨x, hx⟩ : ∃ x, ds[k]? = some x := ⟨_, List.getElem?_eq_getElem (by omega)⟩
    obtain ⟨x0, x1⟩ := h k x hx
    have ih := fac_sum h hl k (by omega)
    have e : ds.take (k + 1) = ds.take k ++ [x] := by rw [List.take_add_one, hx]; rfl
    have hlk : (ds.take k).length = k := by rw [List.length_take]; omega
    have hl1 : (ds.take (k + 1)).length = k + 1 := by rw [List.length_take]; omega
    have hb1 := ffN_bound ds h (k + 1) (by omega)
    have hg1 := ff_good (ds := ds.take (k + 1)) (by omega) hb1.1 hb1.2
    have q1 : 1 ≤ ffD (ds.take k) := fac_pos _
    have q2 : 1 ≤ ffD (ds.take (k + 1)) := fac_pos _
    have eD := ffD_snoc (ds.take k) x
    have eN := ffN_snoc (ds.take k) x
    rw [hlk, ← e] at eD eN
    have eF : ffD (ds.take (k + 1)) = fac (k + 2) := by unfold ffD; rw [hl1]
    rw [facT_next (by omega) hx]
    obtain ⟨g, g1, a1, a2, a3, _, a4⟩ := low_parts (n := ffN (ds.take k)) q1
    by_cases hp : 0 < x
    · rw [if_pos hp, sumL_snoc, ih]
      show sumL (ffA (ds.take k)) (ffC (ds.take k)) [fac (k + 2) / x] = _
      obtain ⟨t1, t2⟩ := term_in hp x1
      have hdv : x * (fac (k + 2) / x) = fac (k + 2) := by
        refine Int.mul_ediv_cancel' ?_
        have hxk : x ∣ fac (k + 1) := by
          obtain ⟨j, hj⟩ : ∃ j : Nat, x = ((j + 1 : Nat) : Int) := ⟨x.toNat - 1, by omega⟩
          have : fac (j + 1) ∣ fac (k + 1) := fac_dvd (by omega)
          rw [hj]
          exact Int.dvd_trans ⟨fac j, by show fac j * _ = _; exact Int.mul_comm _ _⟩ this
        exact Int.dvd_trans hxk (fac_dvd (by omega))
      have htp : 1 ≤ fac (k + 2) / x := by have := fac_pos (k + 1); omega
      have hlow := low_same (n := ffA (ds.take k) * (fac (k + 2) / x) + ffC (ds.take k)) (d := ffC (ds.take k) * (fac (k + 2) / x)) (p := ffN (ds.take (k + 1))) (q := ffD (ds.take (k + 1))) (mul_pos1 a3 htp) q2 (by
        show (ffN (ds.take k) / gcdI (ffN (ds.take k)) (ffD (ds.take k)) * _ + ffD (ds.take k) / gcdI (ffN (ds.take k)) (ffD (ds.take k))) * _ = _ * (ffD (ds.take k) / gcdI (ffN (ds.take k)) (ffD (ds.take k)) * _)
        rw [eN]
        rw [← eF] at hdv ⊢
        generalize ffD (ds.take (k + 1)) / x = t at *
        generalize ffN (ds.take k) / gcdI (ffN (ds.take k)) (ffD (ds.take k)) = a at *
        generalize ffD (ds.take k) / gcdI (ffN (ds.take k)) (ffD (ds.take k)) = b at *
        generalize ffD (ds.take (k + 1)) = F at *
        generalize ffN (ds.take k) = P at *
        generalize ffD (ds.take k) = Q at *
        generalize ((k + 2 : Nat) : Int) = c at *
        subst a1 a2
        have h1 : a * t * F = a * t * (g * b * c) := by rw [eD]
        have h2 : b * F = b * (x * t) := by rw [hdv]
        have h3 : (a * t + b) * F = a * t * F + b * F := by grind
        rw [h3, h1, h2]
        grind)
      have hgb := good_bounds hg1.1
      have hr : redB (ffA (ds.take k) * (fac (k + 2) / x) + ffC (ds.take k)) (ffC (ds.take k) * (fac (k + 2) / x)) = true := by
        refine redB_yes ?_ ?_
        · rw [hlow.1]; exact hgb.2.1
        · rw [hlow.2]; exact hgb.2.2.2
      rw [sumL_yes hr, redN, redD, if_pos hr, if_pos hr, hlow.1, hlow.2]
      rfl
    · obtain rfl : x = 0 := by omega
      rw [if_neg hp, List.append_nil, ih]
      have hlow := low_same (n := ffN (ds.take k)) (d := ffD (ds.take k)) (p := ffN (ds.take (k + 1))) (q := ffD (ds.take (k + 1))) q1 q2 (by rw [eN, eD]; grind)
      unfold ffA ffC
      rw [hlow.1, hlow.2]
theorem rise_of : ∀ {xs : List Int} {q : Int}, (∀ x ∈ xs, 1 ≤ x ∧ x ≤ 1000000000) → Rising xs → (∀ x ∈ xs, q < x) → rise 1 1000000000 (some q) xs = true
  | [], _, _, _, _ => rise_nil _ _ _
  | x :: xs, q, h, hr, hq => by
    have h1 := h x (by simp)
    rw [rise_next h1.1 h1.2 (hq x (by simp))]
    have hr2 := List.pairwise_cons.1 hr
    exact rise_of (fun y hy => h y (by simp [hy])) hr2.2 hr2.1
/-- the terms of digits are an expansion of their fraction -/
theorem fac_exp {ds : List Int} (h : InR ds) (hl : ds.length ≤ 11) : expB (facT 0 ds) = true ∧ eN (facT 0 ds) = ffA ds ∧ eD (facT 0 ds) = ffC ds := by
  have hs := fac_sum h hl ds.length (Nat.le_refl _)
  have hr := facT_rise h ds.length (Nat.le_refl _)
  rw [List.take_length] at hs hr
  have hfl := facT_len 0 ds
  have hb := fac_le (n := ds.length + 1) (by omega)
  have hx : expB (facT 0 ds) = true := expB_yes (by omega) (by
    rw [← rise_zero (q := 0) (by omega)]
    exact rise_of (fun x hx => by have := hr.2 x hx; omega) hr.1 (fun x hx => by have := hr.2 x hx; omega)) hs
  exact ⟨hx, by rw [eN, if_pos hx, sumN_of hs], by rw [eD, if_pos hx, sumD_of hs]⟩
/-- digits whose last one is no 0: the factorial of their number is the least one -/
theorem fac_least {ds : List Int} (h : InR ds) (hl : ds.length ≤ 11) {k : Nat} {x : Int} (hk : ds.length = k + 1) (hx : ds[k]? = some x) (hx0 : 0 < x) : leastF (ffC ds) = ((k + 2 : Nat) : Int) ∧ ffD ds = fac (k + 2) ∧ ffN ds = ffA ds * (fac (k + 2) / ffC ds) ∧ 1 ≤ ffA ds := by
  obtain ⟨x0, x1⟩ := h k x hx
  have hq : ffD ds = fac (k + 2) := by unfold ffD; rw [hk]
  have q1 : 1 ≤ ffD ds := fac_pos _
  obtain ⟨g, g1, a1, a2, a3, a5, a4⟩ := low_parts (n := ffN ds) q1
  have e : ds = ds.take k ++ [x] := by
    have := List.take_add_one (l := ds) (i := k)
    rw [hx, ← hk, List.take_length] at this
    exact this
  have hlk : (ds.take k).length = k := by rw [List.length_take]; omega
  have hN : ffN ds = ffN (ds.take k) * ((k + 2 : Nat) : Int) + x := by
    have := ffN_snoc (ds.take k) x
    rw [hlk, ← e] at this
    exact this
  have hb := (ffN_bound ds h k (by omega)).1
  have hC : ffC ds = ffD ds / gcdI (ffN ds) (ffD ds) := rfl
  have hA : ffA ds = ffN ds / gcdI (ffN ds) (ffD ds) := rfl
  rw [← hC] at a2 a3
  rw [← hA] at a1
  have hdv : fac (k + 2) % ffC ds = 0 := by rw [← hq]; exact Int.emod_eq_zero_of_dvd ⟨g, by rw [Int.mul_comm]; exact a2⟩
  obtain ⟨l0, l1⟩ := leastF_le (k := k + 2) (by omega) (by omega) hdv
  obtain ⟨m, m1, m2, hm, hmd⟩ := leastF_is l0
  have hNp : 1 ≤ ffN ds := by
    have : 0 ≤ ffN (ds.take k) * ((k + 2 : Nat) : Int) := Int.mul_nonneg hb (by omega)
    omega
  have hApos : 1 ≤ ffA ds := by
    rcases Int.lt_or_le 0 (ffA ds) with h1 | h1
    · omega
    · have : g * ffA ds ≤ g * 0 := Int.mul_le_mul_of_nonneg_left h1 (by omega)
      omega
  refine ⟨?_, hq, ?_, hApos⟩
  · rw [hm]
    rcases Nat.lt_or_ge m (k + 2) with hlt | hge
    · exfalso
      obtain ⟨r, hr⟩ := fac_dvd (show m ≤ k + 1 by omega)
      obtain ⟨q, hq2⟩ := Int.dvd_of_emod_eq_zero hmd
      have e2 : ffD ds = ffC ds * q * r * ((k + 2 : Nat) : Int) := by
        rw [hq]
        show fac (k + 1) * _ = _
        rw [hr, hq2]
      have e3 : ffC ds * g = ffC ds * (q * r * ((k + 2 : Nat) : Int)) := by rw [Int.mul_comm, ← a2, e2]; grind
      have e4 := Int.eq_of_mul_eq_mul_left (by omega) e3
      have e5 : ffN ds % ((k + 2 : Nat) : Int) = 0 := by
        rw [a1, e4]
        exact Int.emod_eq_zero_of_dvd ⟨q * r * ffA ds, by grind⟩
      rw [hN, Int.add_comm, Int.add_mul_emod_self_right, Int.emod_eq_of_lt x0 (by omega)] at e5
      omega
    · rw [hm] at l1
      omega
  · have : fac (k + 2) / ffC ds = g := by rw [← hq, a2]; exact Int.mul_ediv_cancel _ (by omega)
    rw [this, Int.mul_comm]
    exact a1
structure FacA (n d : Int) (ds : List Int) : Prop where
  pro : proB n d = true
  lf : lfR d = (ds.length : Int) + 1 ∧ lfB d = true
  back : ffRN ds = n ∧ ffRD ds = d ∧ ffB ds = true
  inr : InR ds
  l11 : ds.length ≤ 11
  d64 : In64 ds
  told : fxO n d = some (facT 0 ds)
  exp : expB (facT 0 ds) = true
  sum : eN (facT 0 ds) = n ∧ eD (facT 0 ds) = d
  t64 : In64 (facT 0 ds)
theorem fdO_back {n d : Int} {ds : List Int} (h : fdO n d = some ds) : FacA n d ds := by
  unfold fdO at h
  split at h
  · rename_i hb
    injection h with h
    unfold fdB at hb
    simp only [Bool.and_eq_true, decide_eq_true_eq] at hb
    obtain ⟨hp, h0⟩ := hb
    obtain ⟨m, m2, m12, hm, q1, q2, l0, l1, hL, hdq⟩ := fd_start hp h0
    obtain ⟨n1, n2, d1, d2, hnd, hg, hgc, _⟩ := proB_bounds hp
    have hin : InR ds := by rw [← h, hL]; exact digL_in m _
    have hl : ds.length = m - 1 := by rw [← h, hL]; exact digL_len m _
    have hN : ffN ds = n * (fac m / d) := by rw [← h, hL]; exact hor_dig m _ l0 l1
    have hD : ffD ds = fac m := by unfold ffD; rw [hl]; congr 1; omega
    have hl11 : ds.length ≤ 11 := by omega
    have hB : ffB ds = true := (ffB_iff ds).2 ⟨hl11, hin⟩
    have hlow := low_same (n := ffN ds) (d := ffD ds) (p := n) (q := d) (by rw [hD]; exact fac_pos m) (by omega) (by rw [hN, hD, ← hdq]; grind)
    obtain ⟨r1, r2⟩ := red_one hgc
    have hA : ffA ds = n := by unfold ffA; rw [hlow.1, r1]
    have hC : ffC ds = d := by unfold ffC; rw [hlow.2, r2]
    obtain ⟨x1, x2, x3⟩ := fac_exp hin hl11
    obtain ⟨f1, f2⟩ := lfR_yes (show 1 ≤ d by omega)
    have hfx : fxO n d = some (facT 0 ds) := by rw [fxO_some hp h0, h, if_pos x1]
    refine ⟨hp, ⟨by rw [f1, hm, hl]; omega, by rw [f2, decide_eq_true h0]⟩, ⟨by rw [(ffR_yes hB).1, hA], by rw [(ffR_yes hB).2.1, hC], hB⟩, hin, hl11, fun i x hx => by have := hin i x hx; have : i < ds.length := (List.getElem?_eq_some_iff.1 hx).1; omega, hfx, x1, ⟨by rw [x2, hA], by rw [x3, hC]⟩, In64.of_mem fun x hx => by have := expB_small x1 x hx; omega⟩
  · cases h
/-- digits are got back from their fraction, if the last one is no 0 -/
theorem fdO_again {zs : List Int} (h : ffB zs = true) {k : Nat} {x : Int} (hk : zs.length = k + 1) (hx : zs[k]? = some x) (hx0 : 0 < x) (hlt : ffRN zs < ffRD zs) : fdO (ffRN zs) (ffRD zs) = some zs := by
  obtain ⟨hl, hin⟩ := (ffB_iff zs).1 h
  obtain ⟨e1, e2, _⟩ := ffR_yes h
  rw [e1, e2] at hlt ⊢
  obtain ⟨a, b, c, d⟩ := fac_least hin hl hk hx hx0
  have hb := ffN_bound zs hin zs.length (Nat.le_refl _)
  rw [List.take_length] at hb
  have hg := (ff_good hl hb.1 hb.2).1
  have hp : proB (ffA zs) (ffC zs) = true := (proB_iff _ _).2 ⟨hg, d, hlt⟩
  have h0 : leastF (ffC zs) ≠ 0 := by rw [a]; omega
  rw [fdO_yes hp h0]
  unfold fdL
  rw [a, Int.toNat_natCast, ← c]
  have := dig_hor hin zs.length (Nat.le_refl _)
  rw [List.take_length, hk] at this
  rw [this]
theorem ffR_small (zs : List Int) : (-9223372036854775808 ≤ ffRN zs ∧ ffRN zs ≤ 9223372036854775807) ∧ (-9223372036854775808 ≤ ffRD zs ∧ ffRD zs ≤ 9223372036854775807) := by
  cases h : ffB zs with
  | false =>
    obtain ⟨e1, e2, _⟩ := ffR_no h
    rw [e1, e2]; omega
  | true =>
    obtain ⟨hl, hin⟩ := (ffB_iff zs).1 h
    obtain ⟨e1, e2, _⟩ := ffR_yes h
    have hb := ffN_bound zs hin zs.length (Nat.le_refl _)
    rw [List.take_length] at hb
    have hg := good_bounds (ff_good hl hb.1 hb.2).1
    rw [e1, e2]; omega
end Go.Proofs.YtbjblkfibinenadGreatDoor
