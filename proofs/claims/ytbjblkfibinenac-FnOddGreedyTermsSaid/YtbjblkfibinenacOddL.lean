
/-
  Plain facts on odd greedy terms, and the draw for them.
-/
import Derived.Test.YtbjblkfibinenacOddI
import Derived.Test.YtbjblkfibinenacDrawP
import Derived.Test.YtbjblkfibinenacEngP
namespace Go.Proofs.Ytbjblkfibinenac
open Go.RowKit
theorem oddO_parts {n d m : Int} {xs : List Int} (h : oddO n d m = some xs) : goodB n d = true ∧ n < d ∧ d % 2 = 1 ∧ (0 ≤ m ∧ m ≤ 24) ∧ expB xs = true ∧ ∃ es, walkR (stG pick2) m.toNat 1 n d = some es ∧ takenOf es = xs := by
  unfold oddO at h
  split at h
  · rename_i hb
    obtain ⟨h1, h2, h3⟩ := oddB_yes hb
    obtain ⟨hg, hlt⟩ := belowB_yes h1
    unfold lstO at h
    cases hw : walkR (stG pick2) m.toNat 1 n d with
    | none => rw [hw] at h; cases h
    | some es =>
      rw [hw] at h
      simp only [Option.bind_some] at h
      split at h
      · rename_i hk
        injection h with h
        subst h
        exact ⟨hg, hlt, by omega, h3, hk, es, rfl, rfl⟩
      · cases h
  · cases h
theorem walkO_at {st : Stp} : ∀ {k m : Nat} {l n d : Int} {es : List (Int × Int × Int)}, walkR st k l n d = some es → es.length ≤ m → walkR st m l n d = some es
  | 0, m, l, n, d, es, h, hm => by
    by_cases h0 : n ≤ 0
    · rw [walkR_end h0] at h ⊢; exact h
    · rw [walkR_out (by omega)] at h; cases h
  | k + 1, m, l, n, d, es, h, hm => by
    by_cases h0 : n ≤ 0
    · rw [walkR_end h0] at h ⊢; exact h
    · have hn : 0 < n := by omega
      cases hs : st l n d with
      | none => rw [walkR_none hn hs] at h; cases h
      | some p =>
        obtain ⟨t, n', d'⟩ := p
        rw [walkR_some hn hs] at h
        cases hr : walkR st k (t + 1) n' d' with
        | none => rw [hr] at h; cases h
        | some es' =>
          rw [hr] at h
          injection h with h
          subst h
          cases m with
          | zero => simp at hm
          | succ m =>
            rw [walkR_some hn hs, walkO_at hr (by simpa using hm)]
            rfl
theorem walkO_len {st : Stp} : ∀ {k : Nat} {l n d : Int} {es : List (Int × Int × Int)}, walkR st k l n d = some es → es.length ≤ k
  | 0, l, n, d, es, h => by
    by_cases h0 : n ≤ 0
    · rw [walkR_end h0] at h; injection h with h; subst h; simp
    · rw [walkR_out (by omega)] at h; cases h
  | k + 1, l, n, d, es, h => by
    by_cases h0 : n ≤ 0
    · rw [walkR_end h0] at h; injection h with h; subst h; simp
    · have hn : 0 < n := by omega
      cases hs : st l n d with
      | none => rw [walkR_none hn hs] at h; cases h
      | some p =>
        obtain ⟨t, n', d'⟩ := p
        rw [walkR_some hn hs] at h
        cases hr : walkR st k (t + 1) n' d' with
        | none => rw [hr] at h; cases h
        | some es' =>
          rw [hr] at h
          injection h with h
          subst h
          have := walkO_len hr
          simp; omega
theorem dvd_odd {a b : Int} (h : a ∣ b) (hb : b % 2 = 1) : a % 2 = 1 := by
  obtain ⟨c, rfl⟩ := h
  rcases (by omega : a % 2 = 0 ∨ a % 2 = 1) with h0 | h0
  · obtain ⟨k, hk⟩ : ∃ k, a = 2 * k := ⟨a / 2, by omega⟩
    subst hk
    rw [Int.mul_assoc] at hb
    omega
  · exact h0
theorem mul_odd {a b : Int} (ha : a % 2 = 1) (hb : b % 2 = 1) : a * b % 2 = 1 := by
  rw [Int.mul_emod, ha, hb]; rfl
/-- terms are odd, have the sum, and their number is odd just if the numerator is -/
theorem odd_walk : ∀ {k : Nat} {l n d : Int} {es : List (Int × Int × Int)}, goodB n d = true → d % 2 = 1 → 1 ≤ l → walkR (stG pick2) k l n d = some es →
    sumQ (takenOf es) = rq n d ∧ (∀ t ∈ takenOf es, t % 2 = 1) ∧ (es.length : Int) % 2 = n % 2
  | k, l, n, d, es, hg, hd, hl, h => by
    by_cases h0 : n ≤ 0
    · rw [walkR_end h0] at h
      injection h with h
      subst h
      have := good_bounds hg
      obtain rfl : n = 0 := by omega
      exact ⟨by simp [takenOf, sumQ, rq]; grind, by simp [takenOf], rfl⟩
    · have hn : 0 < n := by omega
      cases k with
      | zero => rw [walkR_out hn] at h; cases h
      | succ k =>
        cases hs : stG pick2 l n d with
        | none => rw [walkR_none hn hs] at h; cases h
        | some p =>
          obtain ⟨t, n', d'⟩ := p
          rw [walkR_some hn hs] at h
          cases hr : walkR (stG pick2) k (t + 1) n' d' with
          | none => rw [hr] at h; cases h
          | some es' =>
            rw [hr] at h
            injection h with h
            subst h
            obtain ⟨h1, h2, h3, h4⟩ := stG_some hs
            obtain ⟨_, _, d1, _⟩ := good_bounds hg
            obtain ⟨u1, _⟩ := ucd_facts (by omega : 1 ≤ n) d1
            have ht1 : 1 ≤ t := by rw [h1]; unfold pick2; split <;> omega
            have hto : t % 2 = 1 := by rw [h1]; unfold pick2; split <;> omega
            obtain ⟨p1, p2, p3, _, p5, p6⟩ := tB_parts h2
            have hgd := tB_good d1 ht1 h2
            have hq := tN_q d1 ht1 h2
            rw [← h3, ← h4] at hgd hq
            have hdt := mul_odd hd hto
            have hgp := gcdI_pos (n * t - d) (d * t) (by have := mul_pos1 d1 ht1; omega)
            have hgo := dvd_odd (gcdI_dvdR (n * t - d) (d * t)) hdt
            have e3 : n' = (n * t - d) / gcdI (n * t - d) (d * t) := by rw [h3, p5, redN, if_pos p3]
            have e4 : d' = d * t / gcdI (n * t - d) (d * t) := by rw [h4, p6, redD, if_pos p3]
            have f3 : gcdI (n * t - d) (d * t) * n' = n * t - d := by rw [e3]; exact Int.mul_ediv_cancel' (gcdI_dvdL _ _)
            have f4 : gcdI (n * t - d) (d * t) * d' = d * t := by rw [e4]; exact Int.mul_ediv_cancel' (gcdI_dvdR _ _)
            have hdo : d' % 2 = 1 := dvd_odd ⟨gcdI (n * t - d) (d * t), f4.symm.trans (Int.mul_comm _ _)⟩ hdt
            obtain ⟨i1, i2, i3⟩ := odd_walk hgd hdo (by omega) hr
            refine ⟨?_, fun x hx => ?_, ?_⟩
            · show 1 / (t : Rat) + sumQ (takenOf es') = rq n d
              rw [i1, hq]
            · rcases List.mem_cons.1 (show x ∈ t :: takenOf es' from hx) with rfl | hx
              · exact hto
              · exact i2 x hx
            · rw [List.length_cons]
              have hpar : n' % 2 = (n + 1) % 2 := by
                generalize gcdI (n * t - d) (d * t) = g at *
                have a1 : g * n' % 2 = n' % 2 := by rw [Int.mul_emod, hgo, Int.one_mul, Int.emod_emod]
                have a2 : n * t % 2 = n % 2 := by rw [Int.mul_emod, hto, Int.mul_one, Int.emod_emod]
                omega
              omega
structure OddL (n d m : Int) (xs : List Int) : Prop where
  exp : expB xs = true
  sum : eN xs = n ∧ eD xs = d
  odd : ∀ t ∈ xs, 1 ≤ t ∧ t % 2 = 1
  l24 : xs.length ≤ 24
  x64 : In64 xs
  most : (xs.length : Int) ≤ m
  again : oddO n d (xs.length : Int) = some xs
  fewer : 1 ≤ xs.length → oddO n d ((xs.length : Int) - 1) = none
  par : (xs.length : Int) % 2 = n % 2
  n0 : 0 ≤ n
theorem oddO_back {n d m : Int} {xs : List Int} (h : oddO n d m = some xs) : OddL n d m xs := by
  obtain ⟨hg, hlt, hd, hm, hk, es, hw, hes⟩ := oddO_parts h
  obtain ⟨a, b, c⟩ := odd_walk hg hd (by omega) hw
  have hlen : es.length = xs.length := by rw [← hes, takenOf_len]
  have hl24 := expB_len hk
  have hq := sum_q hk
  rw [hes] at a b
  rw [a] at hq
  obtain ⟨e1, e2⟩ := good_same (good_sum hk) hg hq
  have hB : belowB n d = true := by simp [belowB, hg, hlt]
  have hwk := walkO_len hw
  have hag : oddO n d (xs.length : Int) = some xs := by
    unfold oddO
    rw [if_pos (by simp [oddB, hB, hd]; omega), lstO_yes (es := es) (by rw [Int.toNat_natCast]; exact walkO_at hw (by omega)) (by rw [hes]; exact hk), hes]
  refine ⟨hk, ⟨by rw [eN, if_pos hk, e1], by rw [eD, if_pos hk, e2]⟩, fun t ht => ⟨(expB_small hk t ht).1, b t ht⟩, hl24, In64.of_mem fun x hx => by have := expB_small hk x hx; omega, by omega, hag, fun h1 => ?_, by rw [← hlen]; exact c, (good_bounds hg).1⟩
  obtain ⟨j, hj⟩ : ∃ j, xs.length = j + 1 := ⟨xs.length - 1, by omega⟩
  have hw2 : walkR (stG pick2) (j + 1) 1 n d = some es := walkO_at hw (by omega)
  have hno := walkR_long hw2 (by omega)
  unfold oddO
  split
  · rw [show ((xs.length : Int) - 1).toNat = j by omega]
    exact lstO_none hno
  · rfl
theorem oddO_less {n d m : Int} (h : (oddO n d m).isSome = true) : ∃ xs, oddO n d m = some xs := by
  cases ho : oddO n d m with
  | none => rw [ho] at h; cases h
  | some xs => exact ⟨xs, rfl⟩
set_option maxRecDepth 100000 in
set_option maxHeartbeats 8000000 in
theorem drawOdd_any (w : World) (A : Option Addr) (n c : Nat) (hr : ReadsB w A n) (hn : n ≤ 1048576) : Calls Try.prog 44 #[.slice A n c] w (fun e w' => ∃ a b l : Int, e = .returned (.tuple #[.agg #[.int .i64 a, .int .i64 b], .int .i64 l]) ∧ (-9223372036854775808 ≤ a ∧ a ≤ 9223372036854775807) ∧ (-9223372036854775808 ≤ b ∧ b ≤ 9223372036854775807) ∧ (-9223372036854775808 ≤ l ∧ l ≤ 9223372036854775807) ∧ Below w.heap.size w w') := by
  have T0 := Lib.hid (TwoAt.new w 0 0 27)
  have hc0 := beginP (w.alloc (.cells #[.int .i64 0, .int .i64 0] 27)) A n c 65 (hr.below ((Below.refl _ _).alloc (Nat.le_refl _) _)) hn
  rw [World.size_alloc] at hc0
  have HC0 := Lib.hid hc0
  clear hr hc0
  go_enter Try.func44, Try.ntmps44
  go_wp2_with fail
  refine (pick_any (w.alloc (.cells #[.int .i64 0, .int .i64 0] 27)) _ (w.heap.size + 1) 0 (by omega) _ (by omega) HC0.out).mono ?_; rintro e w1 ⟨x, rfl, x0, x1, hc1, hg1⟩
  have HC1 := Lib.hid hc1
  have hz1 := hg1.size
  simp only [World.size_alloc] at hz1
  clear hc1 hg1
  go_wp2_with fail
  refine (oneP_any (w.alloc (.cells #[.int .i64 0, .int .i64 0] 27)) _ (w.heap.size + 1) 2 (by omega) _ (by omega) HC1.out).mono ?_; rintro e w2 ⟨o, rfl, hc2, hg2⟩
  have HC2 := Lib.hid hc2
  have hz2 := hg2.size
  clear hc2 hg2
  cases o with
  | true =>
    go_wp2_with fail
    refine (among_any (w.alloc (.cells #[.int .i64 0, .int .i64 0] 27)) _ (w.heap.size + 1) 4 (by omega) (-1) 1000000001 _ 4 [-1, 0, 24, 25] (Reads.lit w2 _ 4 rfl) (by simp) (by simp) (by simp) (fun a ha => by injection ha with ha; subst ha; show w2.heap.size ≠ w.heap.size + 1; omega) (fun z hz => by simp only [List.mem_cons, List.not_mem_nil, or_false] at hz; omega) (HC2.out.below ((Below.refl _ _).alloc (Nat.le_refl _) _))).mono ?_; rintro e w3 ⟨z, rfl, z0, z1, hc3, hg3⟩
    have HC3 := Lib.hid (hc3.more (show 6 ≤ 8 by omega))
    have hz3 := hg3.size
    simp only [World.size_alloc] at hz3
    clear hc3 hg3
    go_wp2_with fail
    refine (proper_any (w.alloc (.cells #[.int .i64 0, .int .i64 0] 27)) _ (w.heap.size + 1) 8 (by omega) HC3.out).mono ?_; rintro e w4 ⟨a, b, rfl, ha, hb, hc4, hg4⟩
    have HC4 := Lib.hid (hc4.below ((Below.refl _ _).alloc (Nat.le_refl _) (.cells #[.int .i64 (a), .int .i64 (b)] 27)))
    have TA := Lib.hid (TwoAt.new w4 a b 27)
    have hz4 := hg4.size
    clear hc4 hg4
    go_wp2_with fail
    refine (oneP_any (w.alloc (.cells #[.int .i64 0, .int .i64 0] 27)) _ (w.heap.size + 1) 38 (by omega) _ (by omega) HC4.out).mono ?_; rintro e w5 ⟨o2, rfl, hc5, hg5⟩
    have HC5 := Lib.hid hc5
    have TA := Lib.hid (TA.out.grown hg5 (by omega))
    have hz5 := hg5.size
    (try simp only [World.size_alloc] at hz5)
    clear hc5 hg5
    cases o2 with
    | true =>
      go_wp2_with fail
      refine (pick_any (w.alloc (.cells #[.int .i64 0, .int .i64 0] 27)) _ (w.heap.size + 1) 40 (by omega) _ (by omega) HC5.out).mono ?_; rintro e w6 ⟨y, rfl, y0, y1, hc6, hg6⟩
      have HC6 := Lib.hid hc6
      have TA := Lib.hid (TA.out.grown hg6 (by omega))
      have hz6 := hg6.size
      clear hc6 hg6
      go_wp2_with fail
      refine (pick_any (w.alloc (.cells #[.int .i64 0, .int .i64 0] 27)) _ (w.heap.size + 1) 42 (by omega) (3 + 2 * y - 1) (by omega) HC6.out).mono ?_; rintro e w7 ⟨q, rfl, q0, q1, hc7, hg7⟩
      have HC7 := Lib.hid hc7
      have TA := Lib.hid (TA.out.grown hg7 (by omega))
      have hz7 := hg7.size
      clear hc7 hg7
      go_wp2_with fail
      refine (unMake_any _ _ _ (by omega) (by omega) (by omega) (by omega)).mono ?_; rintro e w8 ⟨rfl, hb8⟩
      have hsm := red_small (x := 1 + q) (y := 3 + 2 * y) (by omega) (by omega) (by omega) (by omega)
      generalize (1 + q) / gcdI (1 + q) (3 + 2 * y) = a' at *
      generalize (3 + 2 * y) / gcdI (1 + q) (3 + 2 * y) = b' at *
      have Hsm := Lib.hid hsm
      have HC8 := Lib.hid (HC7.out.below hb8)
      have hbs := HC8.out.base.2.2
      have hz8 := hb8.size
      obtain ⟨s1, s2, s3, s4, s5⟩ := TA.out.below hb8
      obtain ⟨t1, t2, t3, t4, t5⟩ := T0.out.below hbs
      have hbw : Below w.heap.size w w8 := by (repeat' (first | (with_reducible exact Below.refl _ _) | (with_reducible assumption) | (with_reducible refine Below.drew ?_) | (with_reducible refine belowDrewN ?_ _) | (with_reducible refine Below.alloc ?_ ?_ _) | (with_reducible refine Below.setCell ?_ ?_ _) | (with_reducible refine belowStep (by assumption) ?_ ?_) | (with_reducible exact Below.size (by assumption)) | go_size))
      have hn1 : w.heap.size ≠ w4.heap.size := by omega
      have hn2 : w4.heap.size ≠ w.heap.size := by omega
      clear hsm hb8 hbs
      go_wp2
      refine bodyPost_ret (by simp [results, Try.results44, go_sem, *]; try rfl) rfl ?_
      exact ⟨a', b', z, rfl, Hsm.out.1, Hsm.out.2, by omega, (((hbw.setCell (show w.heap.size ≤ w4.heap.size by omega) _).setCell (show w.heap.size ≤ w4.heap.size by omega) _).setCell (Nat.le_refl _) _).setCell (Nat.le_refl _) _⟩
    | false =>
      have hbs := HC5.out.base.2.2
      obtain ⟨s1, s2, s3, s4, s5⟩ := TA.out
      obtain ⟨t1, t2, t3, t4, t5⟩ := T0.out.below hbs
      have hbw : Below w.heap.size w w5 := by (repeat' (first | (with_reducible exact Below.refl _ _) | (with_reducible assumption) | (with_reducible refine Below.drew ?_) | (with_reducible refine belowDrewN ?_ _) | (with_reducible refine Below.alloc ?_ ?_ _) | (with_reducible refine Below.setCell ?_ ?_ _) | (with_reducible refine belowStep (by assumption) ?_ ?_) | (with_reducible exact Below.size (by assumption)) | go_size))
      have hn1 : w.heap.size ≠ w4.heap.size := by omega
      have hn2 : w4.heap.size ≠ w.heap.size := by omega
      clear hbs
      go_wp2
      refine bodyPost_ret (by simp [results, Try.results44, go_sem, *]; try rfl) rfl ?_
      exact ⟨a, b, z, rfl, ha, hb, by omega, (hbw.setCell (Nat.le_refl _) _).setCell (Nat.le_refl _) _⟩
  | false =>
    obtain ⟨w3, hw3⟩ : ∃ w3, w3 = w2 := ⟨_, rfl⟩
    have HC3 := Lib.hid (HC2.out.more (show 4 ≤ 8 by omega))
    rw [← hw3] at HC3 hz2 ⊢
    have hz3 : w2.heap.size ≤ w3.heap.size := by rw [hw3]; exact Nat.le_refl _
    clear hw3
    go_wp2_with fail
    refine (proper_any (w.alloc (.cells #[.int .i64 0, .int .i64 0] 27)) _ (w.heap.size + 1) 8 (by omega) HC3.out).mono ?_; rintro e w4 ⟨a, b, rfl, ha, hb, hc4, hg4⟩
    have HC4 := Lib.hid (hc4.below ((Below.refl _ _).alloc (Nat.le_refl _) (.cells #[.int .i64 (a), .int .i64 (b)] 27)))
    have TA := Lib.hid (TwoAt.new w4 a b 27)
    have hz4 := hg4.size
    clear hc4 hg4
    go_wp2_with fail
    refine (oneP_any (w.alloc (.cells #[.int .i64 0, .int .i64 0] 27)) _ (w.heap.size + 1) 38 (by omega) _ (by omega) HC4.out).mono ?_; rintro e w5 ⟨o2, rfl, hc5, hg5⟩
    have HC5 := Lib.hid hc5
    have TA := Lib.hid (TA.out.grown hg5 (by omega))
    have hz5 := hg5.size
    (try simp only [World.size_alloc] at hz5)
    clear hc5 hg5
    cases o2 with
    | true =>
      go_wp2_with fail
      refine (pick_any (w.alloc (.cells #[.int .i64 0, .int .i64 0] 27)) _ (w.heap.size + 1) 40 (by omega) _ (by omega) HC5.out).mono ?_; rintro e w6 ⟨y, rfl, y0, y1, hc6, hg6⟩
      have HC6 := Lib.hid hc6
      have TA := Lib.hid (TA.out.grown hg6 (by omega))
      have hz6 := hg6.size
      clear hc6 hg6
      go_wp2_with fail
      refine (pick_any (w.alloc (.cells #[.int .i64 0, .int .i64 0] 27)) _ (w.heap.size + 1) 42 (by omega) (3 + 2 * y - 1) (by omega) HC6.out).mono ?_; rintro e w7 ⟨q, rfl, q0, q1, hc7, hg7⟩
      have HC7 := Lib.hid hc7
      have TA := Lib.hid (TA.out.grown hg7 (by omega))
      have hz7 := hg7.size
      clear hc7 hg7
      go_wp2_with fail
      refine (unMake_any _ _ _ (by omega) (by omega) (by omega) (by omega)).mono ?_; rintro e w8 ⟨rfl, hb8⟩
      have hsm := red_small (x := 1 + q) (y := 3 + 2 * y) (by omega) (by omega) (by omega) (by omega)
      generalize (1 + q) / gcdI (1 + q) (3 + 2 * y) = a' at *
      generalize (3 + 2 * y) / gcdI (1 + q) (3 + 2 * y) = b' at *
      have Hsm := Lib.hid hsm
      have HC8 := Lib.hid (HC7.out.below hb8)
      have hbs := HC8.out.base.2.2
      have hz8 := hb8.size
      obtain ⟨s1, s2, s3, s4, s5⟩ := TA.out.below hb8
      obtain ⟨t1, t2, t3, t4, t5⟩ := T0.out.below hbs
      have hbw : Below w.heap.size w w8 := by (repeat' (first | (with_reducible exact Below.refl _ _) | (with_reducible assumption) | (with_reducible refine Below.drew ?_) | (with_reducible refine belowDrewN ?_ _) | (with_reducible refine Below.alloc ?_ ?_ _) | (with_reducible refine Below.setCell ?_ ?_ _) | (with_reducible refine belowStep (by assumption) ?_ ?_) | (with_reducible exact Below.size (by assumption)) | go_size))
      have hn1 : w.heap.size ≠ w4.heap.size := by omega
      have hn2 : w4.heap.size ≠ w.heap.size := by omega
      clear hsm hb8 hbs
      go_wp2
      refine bodyPost_ret (by simp [results, Try.results44, go_sem, *]; try rfl) rfl ?_
      exact ⟨a', b', x, rfl, Hsm.out.1, Hsm.out.2, by omega, (((hbw.setCell (show w.heap.size ≤ w4.heap.size by omega) _).setCell (show w.heap.size ≤ w4.heap.size by omega) _).setCell (Nat.le_refl _) _).setCell (Nat.le_refl _) _⟩
    | false =>
      have hbs := HC5.out.base.2.2
      obtain ⟨s1, s2, s3, s4, s5⟩ := TA.out
      obtain ⟨t1, t2, t3, t4, t5⟩ := T0.out.below hbs
      have hbw : Below w.heap.size w w5 := by (repeat' (first | (with_reducible exact Below.refl _ _) | (with_reducible assumption) | (with_reducible refine Below.drew ?_) | (with_reducible refine belowDrewN ?_ _) | (with_reducible refine Below.alloc ?_ ?_ _) | (with_reducible refine Below.setCell ?_ ?_ _) | (with_reducible refine belowStep (by assumption) ?_ ?_) | (with_reducible exact Below.size (by assumption)) | go_size))
      have hn1 : w.heap.size ≠ w4.heap.size := by omega
      have hn2 : w4.heap.size ≠ w.heap.size := by omega
      clear hbs
      go_wp2
      refine bodyPost_ret (by simp [results, Try.results44, go_sem, *]; try rfl) rfl ?_
      exact ⟨a, b, x, rfl, ha, hb, by omega, (hbw.setCell (Nat.le_refl _) _).setCell (Nat.le_refl _) _⟩
end Go.Proofs.Ytbjblkfibinenac
