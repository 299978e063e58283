
/-
  Plain facts: a common multiple makes a sum whole; a scaled list has the sum divided. An expansion is read back from its text; the draw of a list and a number; a whole number as a fraction.
-/
import Derived.Test.YtfcklhppemidhaaDoorRat
import Derived.Test.YtfcklhppemidhaaDoorCommon
import Derived.Test.YtfcklhppemidhaaDoorScale
import Derived.Test.YtfcklhppemidhaaDoorPart
import Derived.Test.YtfcklhppemidhaaDoorParseQ
import Derived.Lib.Join
import Derived.Test.YtfcklhppemidhaaDoorDrawS
namespace Go.Proofs.YtfcklhppemidhaaDoor
theorem lcm_dvd : ∀ {xs : List Int} {m k : Int}, 1 ≤ m → m ≤ 1000000000 → (∀ x ∈ xs, 1 ≤ x) → lcmL m xs = some k → m ∣ k ∧ (∀ x ∈ xs, x ∣ k) ∧ 1 ≤ k ∧ k ≤ 1000000000
  | [], m, k, hm, hm2, _, h => by
    simp only [lcmL] at h
    injection h with h
    subst h
    exact ⟨Int.dvd_refl _, (fun x hx => by cases hx), hm, hm2⟩
  | t :: ts, m, k, hm, hm2, hx, h => by
    have ht := hx t (by simp)
    by_cases hc : m * (t / gcdI m t) ≤ 1000000000
    · rw [lcmL_yes hc] at h
      have hg := gcdI_pos m t (by omega)
      have h1 : 1 ≤ t / gcdI m t := div_pos1 ht (by omega) (gcdI_dvdR m t)
      have h2 : 1 ≤ m * (t / gcdI m t) := mul_pos1 hm h1
      obtain ⟨h3, h4, h5, h6⟩ := lcm_dvd h2 hc (fun x hx' => hx x (by simp [hx'])) h
      refine ⟨Int.dvd_trans (Int.dvd_mul_right _ _) h3, fun x hx' => ?_, h5, h6⟩
      rcases List.mem_cons.1 hx' with rfl | hx'
      · rw [← lcm_swap ht] at h3
        exact Int.dvd_trans (Int.dvd_mul_left _ _) h3
      · exact h4 x hx'
    · rw [lcmL_no hc] at h
      cases h
theorem c_told {xs : List Int} (h : cB xs = true) : expB xs = true ∧ (∀ x ∈ xs, x ∣ cM xs) ∧ 1 ≤ cM xs ∧ cM xs ≤ 1000000000 := by
  have he : expB xs = true := by
    cases he : expB xs with
    | true => rfl
    | false => rw [(c_no he).2] at h; cases h
  cases hl : lcmL 1 xs with
  | none => rw [(c_none hl).2] at h; cases h
  | some m =>
    rw [(c_some he hl).1]
    obtain ⟨_, h2, h3, h4⟩ := lcm_dvd (by omega) (by omega) (fun x hx => (expB_in he).2 x hx |>.1) hl
    exact ⟨he, h2, h3, h4⟩
/-- a multiple of all terms times the sum is whole -/
theorem whole_sum : ∀ {xs : List Int} {m : Int}, (∀ x ∈ xs, 1 ≤ x) → (∀ x ∈ xs, x ∣ m) → ∃ k : Int, (m : Rat) * sumQ xs = (k : Rat)
  | [], m, _, _ => ⟨0, by simp [sumQ]⟩
  | x :: xs, m, h1, h2 => by
    obtain ⟨k, hk⟩ := whole_sum (xs := xs) (m := m) (fun y hy => h1 y (by simp [hy])) (fun y hy => h2 y (by simp [hy]))
    obtain ⟨j, hj⟩ := h2 x (by simp)
    have hx := ne0 (h1 x (by simp))
    refine ⟨j + k, ?_⟩
    rw [sumQ, Rat.mul_add, hk, hj]
    push_cast
    grind
theorem den_one {n d : Int} (hd : 1 ≤ d) {k : Int} (h : n = k * d) : d / gcdI n d = 1 := by
  have : gcdI n d = d := by
    unfold gcdI
    rw [h, Int.gcd_mul_left_left]
    omega
  rw [this]
  exact Int.ediv_self (by omega)
/-- the product of the sum and a common multiple is whole -/
theorem mul_whole {xs : List Int} (h : cB xs = true) (hr : redB (sumN xs * cM xs) (sumD xs * 1) = true) : redD (sumN xs * cM xs) (sumD xs * 1) = 1 := by
  obtain ⟨he, h1, h2, h3⟩ := c_told h
  obtain ⟨k, hk⟩ := whole_sum (fun x hx => ((expB_in he).2 x hx).1) h1
  have hd : 1 ≤ sumD xs := (sumL_q (by omega) (fun x hx => ((expB_in he).2 x hx).1) (expB_parts he).2.2).2
  rw [redD, if_pos hr]
  refine den_one (by omega) (k := k) ?_
  have hq := sum_q he
  have : rq (sumN xs * cM xs) (sumD xs) = rq k 1 := by
    have h4 : rq (sumN xs * cM xs) (sumD xs) = (cM xs : Rat) * rq (sumN xs) (sumD xs) := by
      unfold rq
      push_cast
      grind
    rw [h4, hq, hk]
    unfold rq
    push_cast
    grind
  have h5 := eq_rq hd (by omega) this
  rw [Int.mul_one] at h5
  rw [Int.mul_one, h5]
/-- of two pairs with one value the one in lowest terms is what the other one is reduced to -/
theorem red_to {n d m e : Int} (hn : 0 ≤ n) (hd : 1 ≤ d) (h : goodB m e = true) (hq : rq n d = rq m e) : redB n d = true ∧ redN n d = m ∧ redD n d = e := by
  obtain ⟨m1, m2, e1, e2, hg⟩ := (goodB_iff m e).1 h
  have hr := red_q (n := n) hd
  have hc := gcdI_red (n := n) hd
  have hdp : 1 ≤ d / gcdI n d := div_pos1 hd (by have := gcdI_pos n d (by omega); omega) (gcdI_dvdR n d)
  rw [hq] at hr
  have hx := eq_rq hdp (by omega) hr
  have d1 : d / gcdI n d ∣ e := dvd_cop hc ⟨m, by rw [hx, Int.mul_comm]⟩
  have d2 : e ∣ d / gcdI n d := dvd_cop hg ⟨n / gcdI n d, by rw [← hx, Int.mul_comm]⟩
  have h1 := Int.le_of_dvd (by omega) d1
  have h2 := Int.le_of_dvd (by omega) d2
  have hde : d / gcdI n d = e := by omega
  have hnm : n / gcdI n d = m := by
    rw [hde] at hx
    exact Int.eq_of_mul_eq_mul_right (by omega) hx
  have hb : redB n d = true := redB_yes (by rw [hnm]; exact m2) (by rw [hde]; exact e2)
  exact ⟨hb, by rw [redN, if_pos hb, hnm], by rw [redD, if_pos hb, hde]⟩
theorem sumQ_scale (k : Int) (hk : 1 ≤ k) : ∀ (xs : List Int), (∀ x ∈ xs, 1 ≤ x) → sumQ (xs.map (k * ·)) * (k : Rat) = sumQ xs
  | [], _ => by simp [sumQ]
  | x :: xs, h => by
    have ih := sumQ_scale k hk xs (fun y hy => h y (by simp [hy]))
    have hx := ne0 (h x (by simp))
    have hk' := ne0 hk
    rw [List.map_cons, sumQ, sumQ, Rat.add_mul, ih]
    push_cast
    grind
theorem scale_sum {xs : List Int} {k : Int} (h : scaleB xs k = true) : expB xs = true ∧ 1 ≤ k ∧ k ≤ 1000000000 ∧ expB (scaleL xs k) = true ∧ redB (sumN xs * 1) (sumD xs * k) = true ∧ redN (sumN xs * 1) (sumD xs * k) = eN (scaleL xs k) ∧ redD (sumN xs * 1) (sumD xs * k) = eD (scaleL xs k) := by
  have hL : scaleL xs k = xs.map (k * ·) := by rw [scaleL, if_pos h]
  simp only [scaleB, Bool.and_eq_true, decide_eq_true_eq] at h
  obtain ⟨⟨⟨he, k1⟩, k2⟩, he2⟩ := h
  have hx : ∀ x ∈ xs, 1 ≤ x := fun x hx => ((expB_in he).2 x hx).1
  have hs := sumL_q (by omega) hx (expB_parts he).2.2
  have hg2 := good_sum he2
  have hn0 : 0 ≤ sumN xs := (good_bounds (good_sum he)).1
  have hq := sum_q he
  have hq2 := sum_q he2
  have hsc := sumQ_scale k k1 xs hx
  have hk' := ne0 k1
  have hd' := ne0 hs.2
  have hmul : rq (sumN xs * 1) (sumD xs * k) = rq (sumN (xs.map (k * ·))) (sumD (xs.map (k * ·))) := by
    rw [hq2]
    unfold rq at *
    push_cast
    grind
  obtain ⟨r1, r2, r3⟩ := red_to (by omega) (mul_pos1 hs.2 k1) hg2 hmul
  refine ⟨he, k1, k2, by rw [hL]; exact he2, r1, ?_, ?_⟩
  · rw [r2, hL, eN, if_pos he2]
  · rw [r3, hL, eD, if_pos he2]
end Go.Proofs.YtfcklhppemidhaaDoor
namespace Go.Proofs.YtfcklhppemidhaaDoor
open Go.RowKit
theorem split_show : ∀ (r : List Int) (y : Int), splitL 43 (dec y ++ Lib.joinTail [43] (r.map dec)) = (y :: r).map dec
  | [], y => by
    simp only [List.map_nil, Lib.joinTail, List.flatten_nil, List.append_nil, List.map_cons]
    exact split_no (dd_no43 _)
  | z :: s, y => by
    have e : Lib.joinTail [43] ((z :: s).map dec) = 43 :: (dec z ++ Lib.joinTail [43] (s.map dec)) := by
      simp [Lib.joinTail]
    rw [e]
    have h := split_mid (b := 43) (x := dec y) (dec z ++ Lib.joinTail [43] (s.map dec)) (dd_no43 _)
    rw [h, split_show s z]
    rfl
theorem modE_show {xs : List Int} (h : ∀ x ∈ xs, 1 ≤ x ∧ x ≤ 1000000000) : modE (showE xs) = xs := by
  match xs, h with
  | [], _ => rfl
  | y :: r, h =>
    have hs : showE (y :: r) = dec y ++ Lib.joinTail [43] (r.map dec) := by
      unfold showE
      rw [List.map_cons, Lib.join_cons]
    have hne : showE (y :: r) ≠ [] := by
      rw [hs]
      intro e
      have := (List.append_eq_nil_iff.1 e).1
      exact dd_ne _ this
    rw [modE, if_neg hne, hs, split_show, List.map_map]
    conv => rhs; rw [← List.map_id (y :: r)]
    apply List.map_congr_left
    intro x hx
    have := h x hx
    show rdI (Lib.decDigits x.toNat) = x
    rw [rdI_dd _ (by omega)]; omega
def DrawLk (w : World) (e : Ending) (w' : World) : Prop := ∃ (v : Value) (xs : List Int) (k : Int), e = .returned (.tuple #[v, .int .i64 k]) ∧ OwnI w' w.heap.size v xs ∧ xs.length ≤ 40 ∧ In64 xs ∧ (-1 ≤ k ∧ k ≤ 1000000001) ∧ Below w.heap.size w w'
set_option maxHeartbeats 4000000 in
theorem drawScale_any (w : World) (A : Option Addr) (n c : Nat) (hr : ReadsB w A n) (hn : n ≤ 1048576) : Calls Tryd.prog 18 #[.slice A n c] w (DrawLk w) := by
  have HC0 := Lib.hid (Cur.start w A n c 60 hr hn)
  clear hr
  go_enter Tryd.func18, Tryd.ntmps18
  go_wp2_with fail
  refine (pick_any w _ w.heap.size 0 (by omega) _ (by omega) HC0.out).mono ?_; rintro e w1 ⟨x, rfl, x0, x1, hc1, hg1⟩
  have HC1 := Lib.hid hc1
  have hz1 := hg1.size
  simp only [World.size_alloc] at hz1
  clear hg1 hc1
  go_wp2_with fail
  refine (one_any w _ w.heap.size 2 (by omega) _ (by omega) HC1.out).mono ?_; rintro e w2 ⟨o, rfl, hc2, hg2⟩
  have HC2 := Lib.hid hc2
  have hz2 := hg2.size
  clear hg2 hc2
  cases o with
  | true =>
    go_wp2_with fail
    refine (among_any w _ w.heap.size 4 (by omega) (-1) 1000000001 _ 6 [-1, 0, 1, 100000000, 1000000000, 1000000001] (Reads.lit w2 _ 6 rfl) (by simp) (by simp) (by simp) (fun a ha => by injection ha with ha; subst ha; show w2.heap.size ≠ w.heap.size; omega) (fun z hz => by simp only [List.mem_cons, List.not_mem_nil, or_false] at hz; omega) (HC2.out.below ((Below.refl _ _).alloc (Nat.le_refl _) _))).mono ?_; rintro e w3 ⟨y, rfl, y0, y1, hc3, hg3⟩
    have HC3 := Lib.hid hc3
    have hz3 := hg3.size
    simp only [World.size_alloc] at hz3
    clear hg3 hc3
    go_wp2_with fail
    refine (terms_any w _ w.heap.size 6 (by omega) HC3.out).mono ?_; rintro e w4 ⟨v4, xs, rfl, ho4, hl4, hi4, hc4, hg4⟩
    have Hi4 := Lib.hid hi4
    have Hb4 := Lib.hid hc4.base.2.2
    have Ho4 := Lib.hid ho4
    clear hg4 hc4 hi4 ho4
    go_wp2
    go_ret2
    exact ⟨_, xs, y, rfl, Ho4.out.mono (by omega), hl4, In64.of_mem Hi4.out, by omega, Hb4.out⟩
  | false =>
    go_wp2_with fail
    refine (terms_any w _ w.heap.size 4 (by omega) HC2.out).mono ?_; rintro e w4 ⟨v4, xs, rfl, ho4, hl4, hi4, hc4, hg4⟩
    have Hi4 := Lib.hid hi4
    have Hb4 := Lib.hid hc4.base.2.2
    have Ho4 := Lib.hid ho4
    clear hg4 hc4 hi4 ho4
    go_wp2
    go_ret2
    exact ⟨_, xs, _, rfl, Ho4.out.mono (by omega), hl4, In64.of_mem Hi4.out, by omega, Hb4.out⟩
theorem pWhole_any (m : Int) (w : World) : Calls Tryd.prog 26 #[.int .i64 m] w (Ret (.agg #[.int .i64 m, .int .i64 1]) w) := by
  go_enter Tryd.func26, Tryd.ntmps26
  go_wp2
  first | (go_ret; exact ⟨rfl, by (repeat' (first | (with_reducible exact Below.refl _ _) | (with_reducible assumption) | (with_reducible refine Below.drew ?_) | (with_reducible refine belowDrewN ?_ _) | (with_reducible refine Below.alloc ?_ ?_ _) | (with_reducible refine Below.setCell ?_ ?_ _) | (with_reducible refine belowStep (by assumption) ?_ ?_) | (with_reducible exact Below.size (by assumption)) | go_size))⟩) | (refine bodyPost_ret (by simp [results, Tryd.results26, go_sem, *]; try rfl) rfl ?_; exact ⟨rfl, by (repeat' (first | (with_reducible exact Below.refl _ _) | (with_reducible assumption) | (with_reducible refine Below.drew ?_) | (with_reducible refine belowDrewN ?_ _) | (with_reducible refine Below.alloc ?_ ?_ _) | (with_reducible refine Below.setCell ?_ ?_ _) | (with_reducible refine belowStep (by assumption) ?_ ?_) | (with_reducible exact Below.size (by assumption)) | go_size))⟩)
end Go.Proofs.YtfcklhppemidhaaDoor
