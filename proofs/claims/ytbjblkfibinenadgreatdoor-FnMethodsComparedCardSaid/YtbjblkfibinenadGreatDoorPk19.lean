import Derived.Test.YtbjblkfibinenadGreatDoorPk18
import Derived.Test.YtbjblkfibinenadGreatDoorPk16
import Derived.Test.YtbjblkfibinenadGreatDoorPk15

/-
  The contract of the model's expansion by inverses.
-/
namespace Go.Proofs.YtbjblkfibinenadGreatDoor
open Go.RowKit
theorem gxO_pro {n d : Int} (h : proB n d = false) : gxO n d = none := by unfold gxO pexO; rw [h]; rfl
theorem gxO_none {n d : Int} (h : walkR stI 24 0 n d = none) : gxO n d = none := by
  unfold gxO pexO golO
  rw [h]
  cases proB n d <;> rfl
theorem gxO_some {n d : Int} {es : List (Int × Int × Int)} (hp : proB n d = true) (h : walkR stI 24 0 n d = some es) : gxO n d = if expB (putAll [] (takenOf es)) = true then some (putAll [] (takenOf es)) else none := by
  have hf := golO_facts (xs := takenOf es) hp (by unfold golO; rw [h]; rfl)
  rw [putAll_srt hf.2.2.2]
  unfold gxO pexO golO
  rw [hp, h]
  rfl
theorem gxO_len (n d : Int) : ((gxO n d).getD []).length ≤ 24 := by
  unfold gxO pexO
  split
  · cases h : golO n d with
    | none => simp [exO]
    | some xs =>
      cases hx : expB (srt xs) with
      | true => rw [exO_yes hx]; exact expB_len hx
      | false => rw [exO_no hx]; simp
  · simp
set_option maxHeartbeats 4000000 in
theorem spec_golombExp_any (n d : Int) (w : World) : Calls Tryz.prog 35 #[.agg #[.int .i64 n, .int .i64 d]] w (RetRB ((gxO n d).getD []) (gxO n d).isSome w) := by
  cases h : proB n d with
  | false =>
    have E := Lib.hid (gxO_pro h)
    go_enter Tryz.func35, Tryz.ntmps35
    go_wp2_with fail
    refine (meProper_any _ _ _).mono ?_; rintro e w1 ⟨rfl, hb1⟩; obtain ⟨hc1, hf1⟩ := bcellB hb1; have hz1 := hb1.size; (try simp only [World.size_alloc] at hc1 hf1 hz1); (try have hy1_r_0 : wr.heap.size < w1.heap.size := by omega); (try have hn1_r_0 : wr.heap.size ≠ w1.heap.size := by omega); (try have hm1_r_0 : w1.heap.size ≠ wr.heap.size := by omega); (try have hy1_r_1 : wr.heap.size + 1 < w1.heap.size := by omega); (try have hn1_r_1 : wr.heap.size + 1 ≠ w1.heap.size := by omega); (try have hm1_r_1 : w1.heap.size ≠ wr.heap.size + 1 := by omega); (try have hy1_r_2 : wr.heap.size + 1 + 1 < w1.heap.size := by omega); (try have hp1_r_1 : wr.heap.size < w1.heap.size + 1 := by omega); (try have hp1_r_2 : wr.heap.size < w1.heap.size + 1 + 1 := by omega); (try have hy1_0_0 : w.heap.size < w1.heap.size := by omega); (try have hn1_0_0 : w.heap.size ≠ w1.heap.size := by omega); (try have hm1_0_0 : w1.heap.size ≠ w.heap.size := by omega); (try have hy1_0_1 : w.heap.size + 1 < w1.heap.size := by omega); (try have hn1_0_1 : w.heap.size + 1 ≠ w1.heap.size := by omega); (try have hm1_0_1 : w1.heap.size ≠ w.heap.size + 1 := by omega); (try have hy1_0_2 : w.heap.size + 1 + 1 < w1.heap.size := by omega); (try have hp1_0_1 : w.heap.size < w1.heap.size + 1 := by omega); (try have hp1_0_2 : w.heap.size < w1.heap.size + 1 + 1 := by omega); (try have hg1_g1 : g1 < w1.heap.size := by omega); (try have hi1_g1 : g1 ≠ w1.heap.size := by omega); (try have hj1_g1 : w1.heap.size ≠ g1 := by omega); (try have hk1_g1 : g1 < w1.heap.size + 1 := by omega); (try have hg1_g2 : g2 < w1.heap.size := by omega); (try have hi1_g2 : g2 ≠ w1.heap.size := by omega); (try have hj1_g2 : w1.heap.size ≠ g2 := by omega); (try have hk1_g2 : g2 < w1.heap.size + 1 := by omega)
    rw [h]
    go_wp2
    go_ret2
    rw [E.out]
    exact ⟨none, 0, rfl, Reads.nil, by (repeat' (first | (with_reducible exact Below.refl _ _) | (with_reducible assumption) | (with_reducible refine Below.drew ?_) | (with_reducible refine belowDrewN ?_ _) | (with_reducible refine Below.alloc ?_ ?_ _) | (with_reducible refine Below.setCell ?_ ?_ _) | (with_reducible refine belowStep (by assumption) ?_ ?_) | (with_reducible exact Below.size (by assumption)) | go_size))⟩
  | true =>
    have HM := Lib.hid fun (w : World) => meTerms_any 24 (by omega) n d w h
    have HS := Lib.hid fun es (hw : walkR stI 24 0 n d = some es) => gxO_some h hw
    have HL := Lib.hid fun es (hw : walkR stI 24 0 n d = some es) => (show (putAll [] (takenOf es)).length ≤ 24 by
      have h1 := putAll_len (takenOf es) []
      have h2 := walkR_len 24 hw
      rw [takenOf_len] at h1
      simp at h1
      omega)
    go_enter Tryz.func35, Tryz.ntmps35
    go_wp2_with fail
    refine (meProper_any _ _ _).mono ?_; rintro e w1 ⟨rfl, hb1⟩; obtain ⟨hc1, hf1⟩ := bcellB hb1; have hz1 := hb1.size; (try simp only [World.size_alloc] at hc1 hf1 hz1); (try have hy1_r_0 : wr.heap.size < w1.heap.size := by omega); (try have hn1_r_0 : wr.heap.size ≠ w1.heap.size := by omega); (try have hm1_r_0 : w1.heap.size ≠ wr.heap.size := by omega); (try have hy1_r_1 : wr.heap.size + 1 < w1.heap.size := by omega); (try have hn1_r_1 : wr.heap.size + 1 ≠ w1.heap.size := by omega); (try have hm1_r_1 : w1.heap.size ≠ wr.heap.size + 1 := by omega); (try have hy1_r_2 : wr.heap.size + 1 + 1 < w1.heap.size := by omega); (try have hp1_r_1 : wr.heap.size < w1.heap.size + 1 := by omega); (try have hp1_r_2 : wr.heap.size < w1.heap.size + 1 + 1 := by omega); (try have hy1_0_0 : w.heap.size < w1.heap.size := by omega); (try have hn1_0_0 : w.heap.size ≠ w1.heap.size := by omega); (try have hm1_0_0 : w1.heap.size ≠ w.heap.size := by omega); (try have hy1_0_1 : w.heap.size + 1 < w1.heap.size := by omega); (try have hn1_0_1 : w.heap.size + 1 ≠ w1.heap.size := by omega); (try have hm1_0_1 : w1.heap.size ≠ w.heap.size + 1 := by omega); (try have hy1_0_2 : w.heap.size + 1 + 1 < w1.heap.size := by omega); (try have hp1_0_1 : w.heap.size < w1.heap.size + 1 := by omega); (try have hp1_0_2 : w.heap.size < w1.heap.size + 1 + 1 := by omega); (try have hg1_g1 : g1 < w1.heap.size := by omega); (try have hi1_g1 : g1 ≠ w1.heap.size := by omega); (try have hj1_g1 : w1.heap.size ≠ g1 := by omega); (try have hk1_g1 : g1 < w1.heap.size + 1 := by omega); (try have hg1_g2 : g2 < w1.heap.size := by omega); (try have hi1_g2 : g2 ≠ w1.heap.size := by omega); (try have hj1_g2 : w1.heap.size ≠ g2 := by omega); (try have hk1_g2 : g2 < w1.heap.size + 1 := by omega)
    rw [h]
    go_wp2_with fail
    refine (HM.out _).mono ?_
    rintro e w2 ⟨hb2, h2⟩
    have hz2 := hb2.size
    rcases h2 with ⟨es, v1, v2, hw, rfl, ho1, ho2⟩ | ⟨hw, rfl⟩
    · have E := Lib.hid (HS.out es hw)
      have hl := HL.out es hw
      obtain ⟨A1, c1, rfl, hr1⟩ := ho1.form
      generalize putAll [] (takenOf es) = xs at *
      have Hr1 := Lib.hid hr1
      clear ho1 ho2 hw hr1
      cases hx : expB xs with
      | true =>
        rw [hx] at E
        go_wp2_with fail
        refine (unList_yes _ A1 c1 xs Hr1.out (by omega) hx).mono ?_; rintro e w3 ⟨rfl, hb3⟩
        have hz3 := hb3.size
        go_wp2
        go_ret2
        rw [E.out]
        exact ⟨_, _, rfl, Hr1.out.below hb3, by (repeat' (first | (with_reducible exact Below.refl _ _) | (with_reducible assumption) | (with_reducible refine Below.drew ?_) | (with_reducible refine belowDrewN ?_ _) | (with_reducible refine Below.alloc ?_ ?_ _) | (with_reducible refine Below.setCell ?_ ?_ _) | (with_reducible refine belowStep (by assumption) ?_ ?_) | (with_reducible exact Below.size (by assumption)) | go_size))⟩
      | false =>
        rw [hx] at E
        go_wp2_with fail
        refine (unList_no _ A1 c1 xs Hr1.out (by omega) hx).mono ?_; rintro e w3 ⟨rfl, hb3⟩
        have hz3 := hb3.size
        go_wp2
        go_ret2
        rw [E.out]
        exact ⟨none, 0, rfl, Reads.nil, by (repeat' (first | (with_reducible exact Below.refl _ _) | (with_reducible assumption) | (with_reducible refine Below.drew ?_) | (with_reducible refine belowDrewN ?_ _) | (with_reducible refine Below.alloc ?_ ?_ _) | (with_reducible refine Below.setCell ?_ ?_ _) | (with_reducible refine belowStep (by assumption) ?_ ?_) | (with_reducible exact Below.size (by assumption)) | go_size))⟩
    · have E := Lib.hid (gxO_none hw)
      go_wp2
      go_ret2
      rw [E.out]
      exact ⟨none, 0, rfl, Reads.nil, by (repeat' (first | (with_reducible exact Below.refl _ _) | (with_reducible assumption) | (with_reducible refine Below.drew ?_) | (with_reducible refine belowDrewN ?_ _) | (with_reducible refine Below.alloc ?_ ?_ _) | (with_reducible refine Below.setCell ?_ ?_ _) | (with_reducible refine belowStep (by assumption) ?_ ?_) | (with_reducible exact Below.size (by assumption)) | go_size))⟩
end Go.Proofs.YtbjblkfibinenadGreatDoor


/-
  Plain facts on factorials, on digits by factorials, and on powers of 2.
-/
namespace Go.Proofs.YtbjblkfibinenadGreatDoor
open Go.RowKit
def fac : Nat → Int
  | 0 => 1
  | n + 1 => fac n * ((n + 1 : Nat) : Int)
theorem fac_pos : ∀ n, 1 ≤ fac n
  | 0 => by simp [fac]
  | n + 1 => mul_pos1 (fac_pos n) (by omega)
theorem fac_up (n : Nat) : fac n ≤ fac (n + 1) := by
  have h := fac_pos n
  have : fac n * 1 ≤ fac n * ((n + 1 : Nat) : Int) := Int.mul_le_mul_of_nonneg_left (by omega) (by omega)
  show fac n ≤ fac n * ((n + 1 : Nat) : Int)
  omega
theorem fac_mono {m n : Nat} (h : m ≤ n) : fac m ≤ fac n := by
  induction n with
  | zero => obtain rfl : m = 0 := by omega
            exact Int.le_refl _
  | succ n ih =>
    rcases Nat.lt_or_ge n m with h1 | h1
    · obtain rfl : m = n + 1 := by omega
      exact Int.le_refl _
    · exact Int.le_trans (ih h1) (fac_up n)
theorem fac_12 : fac 12 = 479001600 := by decide
theorem fac_le {n : Nat} (h : n ≤ 12) : fac n ≤ 479001600 := by rw [← fac_12]; exact fac_mono h
/-- the least factorial from n on that den divides, so many tries at most -/
def lfG (den : Int) : Nat → Nat → Int
  | 0, _ => 0
  | k + 1, n => if fac n % den = 0 then (n : Int) else lfG den k (n + 1)
def leastF (den : Int) : Int := lfG den 12 1
def lfB (den : Int) : Bool := decide (1 ≤ den) && decide (leastF den ≠ 0)
def lfR (den : Int) : Int := if lfB den = true then leastF den else 0
theorem lfG_yes {den : Int} {k n : Nat} (h : fac n % den = 0) : lfG den (k + 1) n = n := if_pos h
theorem lfG_no {den : Int} {k n : Nat} (h : ¬ fac n % den = 0) : lfG den (k + 1) n = lfG den k (n + 1) := if_neg h
theorem lfG_is {den : Int} : ∀ (k n : Nat), lfG den k n = 0 ∨ ∃ m, n ≤ m ∧ m < n + k ∧ lfG den k n = (m : Int) ∧ fac m % den = 0
  | 0, n => .inl rfl
  | k + 1, n => by
    by_cases h : fac n % den = 0
    · exact .inr ⟨n, by omega, by omega, lfG_yes h, h⟩
    · rw [lfG_no h]
      rcases lfG_is k (n + 1) with h1 | ⟨m, h1, h2, h3, h4⟩
      · exact .inl h1
      · exact .inr ⟨m, by omega, by omega, h3, h4⟩
/-- what is told divides -/
theorem leastF_is {den : Int} (h : leastF den ≠ 0) : ∃ m : Nat, 1 ≤ m ∧ m ≤ 12 ∧ leastF den = m ∧ fac m % den = 0 := by
  rcases lfG_is (den := den) 12 1 with h1 | ⟨m, h1, h2, h3, h4⟩
  · exact absurd h1 h
  · exact ⟨m, h1, by omega, h3, h4⟩
/-- a number greater than 1 divides no factorial below 2! -/
theorem leastF_two {den : Int} (hd : 2 ≤ den) (h : leastF den ≠ 0) : ∃ m : Nat, 2 ≤ m ∧ m ≤ 12 ∧ leastF den = m ∧ fac m % den = 0 := by
  obtain ⟨m, h1, h2, h3, h4⟩ := leastF_is h
  refine ⟨m, ?_, h2, h3, h4⟩
  rcases Nat.lt_or_ge m 2 with h5 | h5
  · obtain rfl : m = 1 := by omega
    have : fac 1 % den = 1 := by
      show (1 * ((1 : Nat) : Int)) % den = 1
      exact Int.emod_eq_of_lt (by omega) (by omega)
    omega
  · exact h5
/-- the digits d(2), .., d(i) of left / i! -/
def digL : Nat → Int → List Int
  | 0, _ => []
  | 1, _ => []
  | i + 2, left => digL (i + 1) (left / ((i + 2 : Nat) : Int)) ++ [left % ((i + 2 : Nat) : Int)]
theorem digL_len : ∀ (i : Nat) (left : Int), (digL i left).length = i - 1
  | 0, _ => rfl
  | 1, _ => rfl
  | i + 2, left => by rw [digL, List.length_append, digL_len (i + 1)]; simp
theorem digL_step {i : Nat} (h : 2 ≤ i) (left : Int) : digL i left = digL (i - 1) (left / (i : Int)) ++ [left % (i : Int)] := by
  obtain ⟨j, rfl⟩ : ∃ j, i = j + 2 := ⟨i - 2, by omega⟩
  rfl
/-- what FactorialDigits and FactorialExpansion begin with -/
def fdB (n d : Int) : Bool := proB n d && decide (leastF d ≠ 0)
def fdL (n d : Int) : List Int := digL (leastF d).toNat (n * (fac (leastF d).toNat / d))
def fdO (n d : Int) : Option (List Int) := if fdB n d = true then some (fdL n d) else none
theorem fd_start {n d : Int} (hp : proB n d = true) (h : leastF d ≠ 0) : ∃ m : Nat, 2 ≤ m ∧ m ≤ 12 ∧ leastF d = m ∧ 1 ≤ fac m / d ∧ fac m / d ≤ 479001600 ∧ 0 ≤ n * (fac m / d) ∧ n * (fac m / d) < fac m ∧ fdL n d = digL m (n * (fac m / d)) ∧ d * (fac m / d) = fac m := by
  obtain ⟨hg, hn, hnd⟩ := (proB_iff n d).1 hp
  obtain ⟨m, m2, m12, hm, hdv⟩ := leastF_two (by omega) h
  obtain ⟨q, hq⟩ := Int.dvd_of_emod_eq_zero hdv
  have hf := fac_pos m
  have hf2 := fac_le m12
  have hq1 : fac m / d = q := by rw [hq]; exact Int.mul_ediv_cancel_left q (by omega)
  have q1 : 1 ≤ q := by
    rcases Int.lt_or_le q 1 with h1 | h1
    · have : d * q ≤ d * 0 := Int.mul_le_mul_of_nonneg_left (by omega) (by omega)
      omega
    · exact h1
  have q2 : 1 * q ≤ d * q := Int.mul_le_mul_of_nonneg_right (by omega) (by omega)
  have q3 : (n + 1) * q ≤ d * q := Int.mul_le_mul_of_nonneg_right (by omega) (by omega)
  have q4 : (n + 1) * q = n * q + q := by grind
  have q5 : 0 ≤ n * q := Int.mul_nonneg (by omega) (by omega)
  refine ⟨m, m2, m12, hm, ?_⟩
  rw [hq1]
  refine ⟨q1, by omega, q5, by omega, ?_, hq.symm⟩
  unfold fdL
  rw [hm, Int.toNat_natCast, hq1]
/-- digits in their ranges, from the place of k + 2 on -/
def okD : Nat → List Int → Bool
  | _, [] => true
  | k, d :: ds => decide (0 ≤ d) && decide (d ≤ (k : Int) + 1) && okD (k + 1) ds
theorem okD_iff : ∀ (k : Nat) (ds : List Int), okD k ds = true ↔ ∀ (i : Nat) (x : Int), ds[i]? = some x → 0 ≤ x ∧ x ≤ ((k + i : Nat) : Int) + 1
  | k, [] => by simp [okD]
  | k, d :: ds => by
    rw [okD, Bool.and_eq_true, Bool.and_eq_true, decide_eq_true_eq, decide_eq_true_eq, okD_iff (k + 1) ds]
    constructor
    · rintro ⟨⟨h1, h2⟩, h3⟩ i x hx
      cases i with
      | zero =>
        simp only [List.getElem?_cons_zero, Option.some.injEq] at hx
        subst hx
        exact ⟨h1, by omega⟩
      | succ i =>
        rw [List.getElem?_cons_succ] at hx
        have := h3 i x hx
        exact ⟨this.1, by omega⟩
    · intro h
      refine ⟨⟨(h 0 d rfl).1, by have := (h 0 d rfl).2; omega⟩, fun i x hx => ?_⟩
      have := h (i + 1) x (by rw [List.getElem?_cons_succ]; exact hx)
      exact ⟨this.1, by omega⟩
/-- the number that digits stand for, over (their number + 1)! -/
def hor : Nat → Int → List Int → Int
  | _, a, [] => a
  | k, a, d :: ds => hor (k + 1) (a * ((k + 2 : Nat) : Int) + d) ds
theorem hor_snoc : ∀ (k : Nat) (a : Int) (ds : List Int) (x : Int), hor k a (ds ++ [x]) = hor k a ds * ((k + ds.length + 2 : Nat) : Int) + x
  | k, a, [], x => rfl
  | k, a, d :: ds, x => by
    rw [List.cons_append, hor, hor, hor_snoc (k + 1)]
    congr 2
    simp
    omega
def ffB (ds : List Int) : Bool := decide (ds.length ≤ 11) && okD 0 ds
def ffN (ds : List Int) : Int := hor 0 0 ds
def ffD (ds : List Int) : Int := fac (ds.length + 1)
theorem ffN_snoc (ds : List Int) (x : Int) : ffN (ds ++ [x]) = ffN ds * ((ds.length + 2 : Nat) : Int) + x := by
  unfold ffN
  rw [hor_snoc, Nat.zero_add]
theorem ffD_snoc (ds : List Int) (x : Int) : ffD (ds ++ [x]) = ffD ds * ((ds.length + 2 : Nat) : Int) := by
  unfold ffD
  rw [List.length_append]
  rfl
theorem ffB_iff (ds : List Int) : ffB ds = true ↔ ds.length ≤ 11 ∧ ∀ (i : Nat) (x : Int), ds[i]? = some x → 0 ≤ x ∧ x ≤ (i : Int) + 1 := by
  rw [ffB, Bool.and_eq_true, decide_eq_true_eq, okD_iff]
  simp
theorem ffB_not {ds : List Int} (h : ¬ (ds.length ≤ 11 ∧ ∀ (i : Nat) (x : Int), ds[i]? = some x → 0 ≤ x ∧ x ≤ (i : Int) + 1)) : ffB ds = false := by
  cases hb : ffB ds with
  | false => rfl
  | true => exact absurd ((ffB_iff ds).1 hb) h
/-- the fraction with such digits is less than 1 -/
theorem ffN_bound (ds : List Int) (h : ∀ (i : Nat) (x : Int), ds[i]? = some x → 0 ≤ x ∧ x ≤ (i : Int) + 1) (k : Nat) (hk : k ≤ ds.length) : 0 ≤ ffN (ds.take k) ∧ ffN (ds.take k) < ffD (ds.take k) := by
  induction k with
  | zero => simp [ffN, ffD, hor, fac]
  | succ k ih =>
    have hlt : k < ds.length := by omega
    obtain ⟨i1, i2⟩ := ih (by omega)
    obtain ⟨x, hx⟩ : ∃ x, ds[k]? = some x := ⟨_, List.getElem?_eq_getElem hlt⟩
    obtain ⟨x0, x1⟩ := h k x hx
    have e : ds.take (k + 1) = ds.take k ++ [x] := by rw [List.take_add_one, hx]; rfl
    have hl : (ds.take k).length = k := by rw [List.length_take]; omega
    rw [e, ffN_snoc, ffD_snoc, hl]
    have h1 : 0 ≤ ffN (ds.take k) * ((k + 2 : Nat) : Int) := Int.mul_nonneg i1 (by omega)
    have h2 : (ffN (ds.take k) + 1) * ((k + 2 : Nat) : Int) ≤ ffD (ds.take k) * ((k + 2 : Nat) : Int) := Int.mul_le_mul_of_nonneg_right (by omega) (by omega)
    have h3 : (ffN (ds.take k) + 1) * ((k + 2 : Nat) : Int) = ffN (ds.take k) * ((k + 2 : Nat) : Int) + ((k + 2 : Nat) : Int) := by grind
    refine ⟨by omega, by omega⟩
theorem cop_dvd {a b c : Int} (h : Int.gcd a b = 1) (hd : a ∣ b * c) : a ∣ c := by
  have h1 : a.natAbs ∣ b.natAbs * c.natAbs := by rw [← Int.natAbs_mul]; exact Int.natAbs_dvd_natAbs.2 hd
  exact Int.natAbs_dvd_natAbs.1 (Nat.Coprime.dvd_of_dvd_mul_left h h1)
/-- two pairs in lowest terms that are equal as fractions are the same -/
theorem cop_same {n d m e : Int} (d1 : 1 ≤ d) (e1 : 1 ≤ e) (g1 : gcdI n d = 1) (g2 : gcdI m e = 1) (h : n * e = m * d) : n = m ∧ d = e := by
  have hd : d ∣ e := by
    have h3 : d ∣ n * e := ⟨m, by rw [h]; exact Int.mul_comm _ _⟩
    have hc : Int.gcd d n = 1 := by unfold gcdI at g1; rw [Int.gcd_comm]; omega
    exact cop_dvd hc h3
  have he : e ∣ d := by
    have h3 : e ∣ m * d := ⟨n, by rw [← h]; exact Int.mul_comm _ _⟩
    have hc : Int.gcd e m = 1 := by unfold gcdI at g2; rw [Int.gcd_comm]; omega
    exact cop_dvd hc h3
  have h4 := Int.le_of_dvd (by omega) hd
  have h5 := Int.le_of_dvd (by omega) he
  obtain rfl : d = e := by omega
  exact ⟨Int.eq_of_mul_eq_mul_right (by omega) h, rfl⟩
theorem low_parts {n d : Int} (hd : 1 ≤ d) : ∃ g, 1 ≤ g ∧ n = g * (n / gcdI n d) ∧ d = g * (d / gcdI n d) ∧ 1 ≤ d / gcdI n d ∧ d / gcdI n d ≤ d ∧ gcdI (n / gcdI n d) (d / gcdI n d) = 1 := by
  have hg := gcdI_pos n d (by omega)
  refine ⟨gcdI n d, by omega, (Int.mul_ediv_cancel' (gcdI_dvdL n d)).symm, (Int.mul_ediv_cancel' (gcdI_dvdR n d)).symm, div_pos1 hd (by omega) (gcdI_dvdR n d), Int.ediv_le_self _ (by omega), gcdI_red hd⟩
/-- equal fractions have the same lowest terms -/
theorem low_same {n d p q : Int} (hd : 1 ≤ d) (hq : 1 ≤ q) (h : n * q = p * d) : n / gcdI n d = p / gcdI p q ∧ d / gcdI n d = q / gcdI p q := by
  obtain ⟨g, g1, a1, a2, a3, _, a4⟩ := low_parts (n := n) hd
  obtain ⟨k, k1, b1, b2, b3, _, b4⟩ := low_parts (n := p) hq
  refine cop_same a3 b3 a4 b4 ?_
  generalize n / gcdI n d = x at *
  generalize d / gcdI n d = y at *
  generalize p / gcdI p q = z at *
  generalize q / gcdI p q = u at *
  subst a1 a2 b1 b2
  have h1 : (g * k) * (x * u) = (g * k) * (z * y) := by grind
  exact Int.eq_of_mul_eq_mul_left (by have := mul_pos1 g1 k1; omega) h1
/-- the sum so far, in lowest terms -/
def ffA (ds : List Int) : Int := ffN ds / gcdI (ffN ds) (ffD ds)
def ffC (ds : List Int) : Int := ffD ds / gcdI (ffN ds) (ffD ds)
theorem ffD_in {ds : List Int} (h : ds.length ≤ 11) : 1 ≤ ffD ds ∧ ffD ds ≤ 479001600 := ⟨fac_pos _, fac_le (by omega)⟩
theorem ff_good {ds : List Int} (hl : ds.length ≤ 11) (h0 : 0 ≤ ffN ds) (h1 : ffN ds < ffD ds) : goodB (ffA ds) (ffC ds) = true ∧ redB (ffN ds) (ffD ds) = true ∧ redN (ffN ds) (ffD ds) = ffA ds ∧ redD (ffN ds) (ffD ds) = ffC ds := by
  obtain ⟨d1, d2⟩ := ffD_in hl
  have hr : redB (ffN ds) (ffD ds) = true := redB_yes (Int.le_trans (Int.ediv_le_self _ h0) (by omega)) (Int.le_trans (Int.ediv_le_self _ (by omega)) (by omega))
  exact ⟨(good_red h0 d1).trans hr, hr, if_pos hr, if_pos hr⟩
/-- one digit more -/
theorem ff_step {ds : List Int} {x : Int} : (ffA ds * ((ffD (ds ++ [x])) / gcdI x (ffD (ds ++ [x]))) + (x / gcdI x (ffD (ds ++ [x]))) * ffC ds) / gcdI (ffA ds * ((ffD (ds ++ [x])) / gcdI x (ffD (ds ++ [x]))) + (x / gcdI x (ffD (ds ++ [x]))) * ffC ds) (ffC ds * ((ffD (ds ++ [x])) / gcdI x (ffD (ds ++ [x])))) = ffA (ds ++ [x]) ∧
    (ffC ds * ((ffD (ds ++ [x])) / gcdI x (ffD (ds ++ [x])))) / gcdI (ffA ds * ((ffD (ds ++ [x])) / gcdI x (ffD (ds ++ [x]))) + (x / gcdI x (ffD (ds ++ [x]))) * ffC ds) (ffC ds * ((ffD (ds ++ [x])) / gcdI x (ffD (ds ++ [x])))) = ffC (ds ++ [x]) := by
  have q1 : 1 ≤ ffD ds := fac_pos _
  have q2 : 1 ≤ ffD (ds ++ [x]) := fac_pos _
  obtain ⟨g, g1, a1, a2, a3, _, a4⟩ := low_parts (n := ffN ds) q1
  obtain ⟨k, k1, b1, b2, b3, _, b4⟩ := low_parts (n := x) q2
  refine low_same (mul_pos1 a3 b3) q2 ?_
  have e1 := ffN_snoc ds x
  have e2 := ffD_snoc ds x
  rw [e1]
  show (ffN ds / gcdI (ffN ds) (ffD ds) * _ + _ * (ffD ds / gcdI (ffN ds) (ffD ds))) * _ = _ * (ffD ds / gcdI (ffN ds) (ffD ds) * _)
  generalize ((ds.length + 2 : Nat) : Int) = c at *
  generalize ffD (ds ++ [x]) / gcdI x (ffD (ds ++ [x])) = u at *
  generalize x / gcdI x (ffD (ds ++ [x])) = z at *
  generalize ffN ds / gcdI (ffN ds) (ffD ds) = a at *
  generalize ffD ds / gcdI (ffN ds) (ffD ds) = b at *
  generalize ffD (ds ++ [x]) = F at *
  generalize ffN ds = P at *
  generalize ffD ds = Q at *
  subst a1 a2 b1
  have h1 : a * u * F = a * u * (g * b * c) := by rw [e2]
  have h2 : z * b * F = z * b * (k * u) := by rw [b2]
  have h3 : (a * u + z * b) * F = a * u * F + z * b * F := by grind
  rw [h3, h1, h2]
  grind
def ffRN (ds : List Int) : Int := if ffB ds = true then ffA ds else 0
def ffRD (ds : List Int) : Int := if ffB ds = true then ffC ds else 0
/- powers of 2 -/
def p2G : Nat → Int → Int → Int
  | 0, p, _ => p
  | k + 1, p, d => if p < d then p2G k (p * 2) d else p
/-- the least power of 2 that is at least d -/
def p2 (d : Int) : Int := p2G 31 1 d
theorem p2G_more {k : Nat} {p d : Int} (h : p < d) : p2G (k + 1) p d = p2G k (p * 2) d := if_pos h
theorem p2G_end {k : Nat} {p d : Int} (h : ¬ p < d) : p2G k p d = p := by
  cases k with
  | zero => rfl
  | succ k => exact if_neg h
theorem pow_31 : (2 : Int) ^ 31 = 2147483648 := by decide
/-- the relation of the loop: so many times doubled -/
def Pow (d : Int) (j : Nat) (p : Int) : Prop := j ≤ 31 ∧ p = 2 ^ j ∧ 1 ≤ p ∧ p < 2 * d ∧ p2 d = p2G (31 - j) p d
theorem Pow.start {d : Int} (hd : 1 ≤ d) : Pow d 0 1 := ⟨by omega, by simp, by omega, by omega, rfl⟩
theorem Pow.step {d : Int} {j : Nat} {p : Int} (hd : d ≤ 1000000000) (h : Pow d j p) (hlt : p < d) : Pow d (j + 1) (p * 2) := by
  obtain ⟨h1, h2, h3, h4, h5⟩ := h
  have hj : j < 31 := by
    rcases Nat.lt_or_ge j 31 with h6 | h6
    · exact h6
    · obtain rfl : j = 31 := by omega
      rw [pow_31] at h2
      omega
  refine ⟨by omega, by rw [h2, Int.pow_succ], by omega, by omega, ?_⟩
  rw [h5, show 31 - j = (31 - (j + 1)) + 1 from by omega, p2G_more hlt]
theorem Pow.last {d : Int} {j : Nat} {p : Int} (h : Pow d j p) (hlt : ¬ p < d) : p2 d = p := by rw [h.2.2.2.2, p2G_end hlt]
theorem Pow.ends {d : Int} (hd : d ≤ 1000000000) : ∀ (k j : Nat) (p : Int), j + k = 31 → Pow d j p → ∃ j, Pow d j (p2 d) ∧ d ≤ p2 d
  | 0, j, p, hk, h => by
    obtain rfl : j = 31 := by omega
    have h2 := h.2.1
    rw [pow_31] at h2
    have := h.last (by omega)
    exact ⟨31, by rw [this]; exact h, by rw [this]; omega⟩
  | k + 1, j, p, hk, h => by
    by_cases hlt : p < d
    · exact Pow.ends hd k (j + 1) (p * 2) (by omega) (h.step hd hlt)
    · have := h.last hlt
      exact ⟨j, by rw [this]; exact h, by rw [this]; omega⟩
theorem p2_is {d : Int} (hd : 1 ≤ d) (hd2 : d ≤ 1000000000) : ∃ j, Pow d j (p2 d) ∧ d ≤ p2 d := Pow.ends hd2 31 0 1 rfl (Pow.start hd)
def bpN (n d : Int) : Int := if proB n d = true then p2 d else 0
def bpS (n d : Int) : Int := if proB n d = true then n * p2 d / d else 0
def bpR (n d : Int) : Int := if proB n d = true then n * p2 d % d else 0
end Go.Proofs.YtbjblkfibinenadGreatDoor


/-
  Plain facts on the terms of the method by binary digits: they are different.
-/
namespace Go.Proofs.YtbjblkfibinenadGreatDoor
open Go.RowKit
/-- whole / 2^i for all places i of the digits 1 of a number, so many places at most -/
def hvL : Nat → Int → Int → List Int
  | 0, _, _ => []
  | k + 1, m, e => if m ≤ 0 then [] else if m % 2 = 1 then e :: hvL k (m / 2) (e / 2) else hvL k (m / 2) (e / 2)
theorem hvL_end {k : Nat} {m e : Int} (h : m ≤ 0) : hvL k m e = [] := by
  cases k with
  | zero => rfl
  | succ k => exact if_pos h
theorem hvL_odd {k : Nat} {m e : Int} (h : 0 < m) (h2 : m % 2 = 1) : hvL (k + 1) m e = e :: hvL k (m / 2) (e / 2) := by
  have : ¬ m ≤ 0 := by omega
  simp [hvL, this, h2]
theorem hvL_even {k : Nat} {m e : Int} (h : 0 < m) (h2 : ¬ m % 2 = 1) : hvL (k + 1) m e = hvL k (m / 2) (e / 2) := by
  have : ¬ m ≤ 0 := by omega
  simp [hvL, this, h2]
theorem hvL_len : ∀ (k : Nat) (m e : Int), (hvL k m e).length ≤ k
  | 0, m, e => by simp [hvL]
  | k + 1, m, e => by
    have := hvL_len k (m / 2) (e / 2)
    unfold hvL
    split
    · simp
    · split
      · simp only [List.length_cons]; omega
      · omega
/-- they lie between 0 and whole -/
theorem hvL_mem : ∀ (k : Nat) {m e : Int}, 0 ≤ e → ∀ x ∈ hvL k m e, 0 ≤ x ∧ x ≤ e
  | 0, m, e, _, x, hx => by simp [hvL] at hx
  | k + 1, m, e, he, x, hx => by
    have ih := hvL_mem k (m := m / 2) (e := e / 2) (by omega) x
    by_cases h1 : m ≤ 0
    · rw [hvL_end h1] at hx; simp at hx
    · by_cases h2 : m % 2 = 1
      · rw [hvL_odd (by omega) h2] at hx
        rcases List.mem_cons.1 hx with h | h
        · subst h; omega
        · have := ih h; omega
      · rw [hvL_even (by omega) h2] at hx
        have := ih hx; omega
/-- they fall, as long as whole is great enough -/
theorem hvL_fall : ∀ (k : Nat) {m e : Int}, m ≤ e → (hvL k m e).Pairwise (fun a b => b < a)
  | 0, m, e, _ => by simp [hvL]
  | k + 1, m, e, he => by
    have ih := hvL_fall k (m := m / 2) (e := e / 2) (by omega)
    by_cases h1 : m ≤ 0
    · rw [hvL_end h1]; simp
    · by_cases h2 : m % 2 = 1
      · rw [hvL_odd (by omega) h2, List.pairwise_cons]
        refine ⟨fun x hx => ?_, ih⟩
        have := hvL_mem k (m := m / 2) (e := e / 2) (by omega) x hx
        omega
      · rw [hvL_even (by omega) h2]
        exact ih
/-- each is a power of 2 times what whole is a power of 2 times of -/
theorem hvL_pow : ∀ (k : Nat) {m c : Int} {j : Nat}, m < 2 ^ j → 0 < c → ∀ x ∈ hvL k m (c * 2 ^ j), ∃ i, i ≤ j ∧ x = c * 2 ^ i
  | 0, m, c, j, _, _, x, hx => by simp [hvL] at hx
  | k + 1, m, c, j, hm, hc, x, hx => by
    by_cases h1 : m ≤ 0
    · rw [hvL_end h1] at hx; simp at hx
    · cases j with
      | zero =>
        simp at hm
        omega
      | succ j =>
        have he : c * 2 ^ (j + 1) / 2 = c * 2 ^ j := by
          rw [Int.pow_succ, ← Int.mul_assoc]
          exact Int.mul_ediv_cancel _ (by omega)
        have hp : (2 : Int) ^ (j + 1) = 2 ^ j * 2 := Int.pow_succ _ _
        have hm2 : m / 2 < 2 ^ j := by omega
        by_cases h2 : m % 2 = 1
        · rw [hvL_odd (by omega) h2, he] at hx
          rcases List.mem_cons.1 hx with h | h
          · exact ⟨j + 1, Nat.le_refl _, h⟩
          · obtain ⟨i, hi, e⟩ := hvL_pow k hm2 hc x h
            exact ⟨i, by omega, e⟩
        · rw [hvL_even (by omega) h2, he] at hx
          obtain ⟨i, hi, e⟩ := hvL_pow k hm2 hc x hx
          exact ⟨i, by omega, e⟩
theorem hvL_ne : ∀ (k : Nat) {m e : Int}, 0 < m → m < 2 ^ k → hvL k m e ≠ []
  | 0, m, e, h0, h1 => by simp at h1; omega
  | k + 1, m, e, h0, h1 => by
    have hp : (2 : Int) ^ (k + 1) = 2 ^ k * 2 := Int.pow_succ _ _
    by_cases h2 : m % 2 = 1
    · rw [hvL_odd h0 h2]; simp
    · rw [hvL_even h0 h2]
      exact hvL_ne k (by omega) (by omega)
/-- the terms, as they come -/
def bL (n d : Int) : List Int := hvL 31 (n * p2 d / d) (p2 d) ++ hvL 31 (n * p2 d % d) (d * p2 d)
structure BinS (n d : Int) (J : Nat) : Prop where
  J31 : J ≤ 31
  N : p2 d = 2 ^ J
  N1 : 1 ≤ p2 d
  N2 : p2 d < 2 * d
  dN : d ≤ p2 d
  s0 : 0 ≤ n * p2 d / d
  s1 : n * p2 d / d < p2 d
  r0 : 0 ≤ n * p2 d % d
  r1 : n * p2 d % d < d
  e : d * (n * p2 d / d) + n * p2 d % d = n * p2 d
theorem binS {n d : Int} (hp : proB n d = true) : ∃ J, BinS n d J := by
  obtain ⟨hg, hn, hd⟩ := (proB_iff n d).1 hp
  obtain ⟨_, _, d1, d2⟩ := good_bounds hg
  obtain ⟨J, ⟨h1, h2, h3, h4, _⟩, h5⟩ := p2_is d1 d2
  have hpos := mul_pos1 hn h3
  refine ⟨J, h1, h2, h3, h4, h5, Int.ediv_nonneg (by omega) (by omega), ?_, Int.emod_nonneg _ (by omega), Int.emod_lt_of_pos _ (by omega), Int.mul_ediv_add_emod _ _⟩
  refine Int.ediv_lt_of_lt_mul (by omega) ?_
  rw [Int.mul_comm (p2 d)]
  exact Int.mul_lt_mul_of_pos_right hd (by omega)
theorem pow_split {i J : Nat} (h : i ≤ J) : (2 : Int) ^ J = 2 ^ i * 2 ^ (J - i) := by rw [← Int.pow_add]; congr 1; omega
theorem pow_pos' (i : Nat) : 1 ≤ (2 : Int) ^ i := by have := Int.pow_pos (n := (2 : Int)) (m := i) (by omega); omega
theorem bL_facts {n d : Int} (hp : proB n d = true) : bL n d ≠ [] ∧ (bL n d).length ≤ 62 ∧ (∀ x ∈ bL n d, 0 ≤ x ∧ x ≤ 2000000000000000000) ∧ (bL n d).Nodup := by
  obtain ⟨J, B⟩ := binS hp
  obtain ⟨hg, hn, hd⟩ := (proB_iff n d).1 hp
  obtain ⟨_, _, d1, d2⟩ := good_bounds hg
  have hN := B.N
  have N1 := B.N1
  have N2 := B.N2
  have s0 := B.s0
  have s1 := B.s1
  have r0 := B.r0
  have r1 := B.r1
  have dN := B.dN
  have hdN := Int.mul_le_mul d2 (show p2 d ≤ 2000000000 by omega) (by omega) (by omega : (0 : Int) ≤ 1000000000)
  have hdN1 : 1 * p2 d ≤ d * p2 d := Int.mul_le_mul_of_nonneg_right d1 (by omega)
  refine ⟨fun e => ?_, ?_, fun x hx => ?_, ?_⟩
  · obtain ⟨e1, e2⟩ := List.append_eq_nil_iff.1 e
    have h31 : (2 : Int) ^ J ≤ 2 ^ 31 := by
      rw [pow_split B.J31]
      have h1 := pow_pos' (31 - J)
      have h2 := pow_pos' J
      have := Int.mul_le_mul_of_nonneg_left h1 (show 0 ≤ (2 : Int) ^ J by omega)
      omega
    have hs : ¬ 0 < n * p2 d / d := fun h => hvL_ne 31 h (by omega) e1
    have hr : ¬ 0 < n * p2 d % d := fun h => hvL_ne 31 h (by omega) e2
    have he := B.e
    have hpos := mul_pos1 hn N1
    have : n * p2 d / d = 0 := by omega
    rw [this] at he
    omega
  · unfold bL
    rw [List.length_append]
    have := hvL_len 31 (n * p2 d / d) (p2 d)
    have := hvL_len 31 (n * p2 d % d) (d * p2 d)
    omega
  · unfold bL at hx
    rcases List.mem_append.1 hx with h | h
    · have := hvL_mem 31 (m := n * p2 d / d) (e := p2 d) (by omega) x h
      omega
    · have := hvL_mem 31 (m := n * p2 d % d) (e := d * p2 d) (by omega) x h
      omega
  · unfold bL
    refine List.nodup_append.2 ⟨falling_nodup (hvL_fall 31 (by omega)), falling_nodup (hvL_fall 31 (by omega)), fun a ha b hb hab => ?_⟩
    subst hab
    have ha' : a ∈ hvL 31 (n * p2 d / d) (1 * 2 ^ J) := by rw [Int.one_mul, ← hN]; exact ha
    have hb' : a ∈ hvL 31 (n * p2 d % d) (d * 2 ^ J) := by rw [← hN]; exact hb
    obtain ⟨i, hi, e1⟩ := hvL_pow 31 (c := 1) (j := J) (by omega) (by omega) a ha'
    obtain ⟨i', hi', e2⟩ := hvL_pow 31 (c := d) (j := J) (by omega) (by omega) a hb'
    have hdv : d ∣ p2 d := by
      rw [hN, pow_split hi]
      rw [Int.one_mul] at e1
      exact ⟨2 ^ i' * 2 ^ (J - i), by rw [← e1, e2]; grind⟩
    have hz : n * p2 d % d = 0 := Int.emod_eq_zero_of_dvd (Int.dvd_trans hdv ⟨n, Int.mul_comm _ _⟩)
    rw [hz, hvL_end (by omega)] at hb
    cases hb
def biO (n d : Int) : Option (List Int) := some (bL n d)
end Go.Proofs.YtbjblkfibinenadGreatDoor
