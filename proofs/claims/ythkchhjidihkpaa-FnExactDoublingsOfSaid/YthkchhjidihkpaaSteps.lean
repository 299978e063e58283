
/-
  Contracts of the greedy step, of the tests of a fraction against 1, and of what they are made of.
-/
import Derived.Test.YthkchhjidihkpaaOrder
import Derived.Test.YthkchhjidihkpaaWalkP
namespace Go.Proofs.Ythkchhjidihkpaa
open Go.RowKit
theorem l1Most_any (a b : Int) (w : World) : Calls Try.prog 80 #[.int .i64 a, .int .i64 b] w (RetQ (.int .i64 (max a b)) w) := by
  by_cases h : b < a
  · go_enter Try.func80, Try.ntmps80
    go_wp2
    go_ret
    exact ⟨ret_int (by omega), 0, rfl⟩
  · go_enter Try.func80, Try.ntmps80
    go_wp2
    go_ret
    exact ⟨ret_int (by omega), 0, rfl⟩
theorem div_in {n d : Int} (hn : 1 ≤ n) (hd : 0 ≤ d) : (d.tdiv n = d / n) ∧ 0 ≤ d / n ∧ d / n ≤ d :=
  ⟨Int.tdiv_eq_ediv_of_nonneg hd, Int.ediv_nonneg hd (by omega), Int.ediv_le_self n hd⟩
set_option maxHeartbeats 1000000 in
theorem grStep_any (n d : Int) (w : World) (hn : 1 ≤ n) (hn2 : n ≤ 1000000000) (hd : 1 ≤ d) (hd2 : d ≤ 1000000000) : Calls Try.prog 81 #[.agg #[.int .i64 n, .int .i64 d]] w (Ret (.int .i64 (ucd n d)) w) := by
  have hu := Lib.hid (ucd_facts hn hd)
  have hq : (d + n - 1) / n ≤ 1000000000 := by have := hu.out.2.2.2; unfold ucd at this; omega
  have hq0 : 1 ≤ (d + n - 1) / n := by have := hu.out.1; unfold ucd at this; omega
  have hne : n ≠ 0 := by omega
  have E : Hid (ucd n d = (d + n - 1) / n) := Lib.hid rfl
  go_enter Try.func81, Try.ntmps81
  go_wp2
  all_goals (try go_region)
  all_goals (try go_wp2)
  all_goals go_returns
  all_goals exact ⟨ret_int (by first | exact E.out.symm | (rw [E.out]; simp [*])), by (repeat' (first | (with_reducible exact Below.refl _ _) | (with_reducible assumption) | (with_reducible refine Below.drew ?_) | (with_reducible refine belowDrewN ?_ _) | (with_reducible refine Below.alloc ?_ ?_ _) | (with_reducible refine Below.setCell ?_ ?_ _) | (with_reducible refine belowStep (by assumption) ?_ ?_) | (with_reducible exact Below.size (by assumption)) | go_size))⟩
set_option maxHeartbeats 1000000 in
theorem leastUnder_any (n d : Int) (w : World) (hn : 1 ≤ n) (hn2 : n ≤ 1000000000) (hd : 1 ≤ d) (hd2 : d ≤ 1000000000) : Calls Try.prog 90 #[.agg #[.int .i64 n, .int .i64 d]] w (Ret (.int .i64 (ucd n d)) w) := by
  have hu := Lib.hid (ucd_facts hn hd)
  have hq : (d + n - 1) / n ≤ 1000000000 := by have := hu.out.2.2.2; unfold ucd at this; omega
  have hq0 : 1 ≤ (d + n - 1) / n := by have := hu.out.1; unfold ucd at this; omega
  have hne : n ≠ 0 := by omega
  have E : Hid (ucd n d = (d + n - 1) / n) := Lib.hid rfl
  go_enter Try.func90, Try.ntmps90
  go_wp2
  all_goals (try go_region)
  all_goals (try go_wp2)
  all_goals go_returns
  all_goals exact ⟨ret_int (by first | exact E.out.symm | (rw [E.out]; simp [*])), by (repeat' (first | (with_reducible exact Below.refl _ _) | (with_reducible assumption) | (with_reducible refine Below.drew ?_) | (with_reducible refine belowDrewN ?_ _) | (with_reducible refine Below.alloc ?_ ?_ _) | (with_reducible refine Below.setCell ?_ ?_ _) | (with_reducible refine belowStep (by assumption) ?_ ?_) | (with_reducible exact Below.size (by assumption)) | go_size))⟩
/-- a unit fraction is taken away -/
theorem takeUnit_any (n d t : Int) (w : World) (hg : goodB n d = true) (ht : 1 ≤ t) (ht2 : t ≤ 9223372036854775807) :
    Calls Try.prog 89 #[.agg #[.int .i64 n, .int .i64 d], .int .i64 t] w (Ret (.tuple #[.int .i64 (tT n d t), .agg #[.int .i64 (tN n d t), .int .i64 (tD n d t)], .bool (tB n d t)]) w) := by
  have hgb := good_bounds hg
  by_cases h1 : t ≤ 1000000000
  · by_cases h2 : d ≤ n * t
    · have hx : Hid (1 * d ≤ n * t) := Lib.hid (by omega)
      cases hr : redB (n * t - d) (d * t) with
      | true =>
        have hb : tB n d t = true := by simp [tB, h1, h2, hr]
        obtain ⟨_, _, _, e1, e2, e3⟩ := tB_parts hb
        have E : Hid (tB n d t = true ∧ tT n d t = t ∧ tN n d t = redN (n * t - d) (d * t) ∧ tD n d t = redD (n * t - d) (d * t) ∧ redB (n * t - 1 * d) (d * t) = true) := Lib.hid ⟨hb, e1, e2, e3, by rw [Int.one_mul]; exact hr⟩
        have hc := Lib.hid fun (w : World) => sub_yes n d 1 t w hg (good_unit ht h1) hx.out
        clear hr hb e1 e2 e3 hgb
        go_enter Try.func89, Try.ntmps89
        go_wp2_with fail
        refine (hc.out _).mono ?_; rintro e w1 ⟨rfl, hb1⟩
        rw [E.out.2.2.2.2]
        obtain ⟨hc1, hf1⟩ := bcellB hb1; have hz1 := hb1.size; (try simp only [World.size_alloc] at hc1 hf1 hz1); (try have hy1_r_0 : wr.heap.size < w1.heap.size := by omega); (try have hn1_r_0 : wr.heap.size ≠ w1.heap.size := by omega); (try have hm1_r_0 : w1.heap.size ≠ wr.heap.size := by omega); (try have hy1_r_1 : wr.heap.size + 1 < w1.heap.size := by omega); (try have hn1_r_1 : wr.heap.size + 1 ≠ w1.heap.size := by omega); (try have hm1_r_1 : w1.heap.size ≠ wr.heap.size + 1 := by omega); (try have hy1_r_2 : wr.heap.size + 1 + 1 < w1.heap.size := by omega); (try have hp1_r_1 : wr.heap.size < w1.heap.size + 1 := by omega); (try have hp1_r_2 : wr.heap.size < w1.heap.size + 1 + 1 := by omega); (try have hy1_0_0 : w.heap.size < w1.heap.size := by omega); (try have hn1_0_0 : w.heap.size ≠ w1.heap.size := by omega); (try have hm1_0_0 : w1.heap.size ≠ w.heap.size := by omega); (try have hy1_0_1 : w.heap.size + 1 < w1.heap.size := by omega); (try have hn1_0_1 : w.heap.size + 1 ≠ w1.heap.size := by omega); (try have hm1_0_1 : w1.heap.size ≠ w.heap.size + 1 := by omega); (try have hy1_0_2 : w.heap.size + 1 + 1 < w1.heap.size := by omega); (try have hp1_0_1 : w.heap.size < w1.heap.size + 1 := by omega); (try have hp1_0_2 : w.heap.size < w1.heap.size + 1 + 1 := by omega); (try have hg1_g1 : g1 < w1.heap.size := by omega); (try have hi1_g1 : g1 ≠ w1.heap.size := by omega); (try have hj1_g1 : w1.heap.size ≠ g1 := by omega); (try have hk1_g1 : g1 < w1.heap.size + 1 := by omega); (try have hg1_g2 : g2 < w1.heap.size := by omega); (try have hi1_g2 : g2 ≠ w1.heap.size := by omega); (try have hj1_g2 : w1.heap.size ≠ g2 := by omega); (try have hk1_g2 : g2 < w1.heap.size + 1 := by omega)
        go_wp2
        go_region
        all_goals
          go_wp2
          refine bodyPost_ret (by simp [results, Try.results89, go_sem, *]; try rfl) rfl ?_
          rw [E.out.1, E.out.2.1, E.out.2.2.1, E.out.2.2.2.1]
          exact ⟨rfl, by (repeat' (first | (with_reducible exact Below.refl _ _) | (with_reducible assumption) | (with_reducible refine Below.drew ?_) | (with_reducible refine belowDrewN ?_ _) | (with_reducible refine Below.alloc ?_ ?_ _) | (with_reducible refine Below.setCell ?_ ?_ _) | (with_reducible refine belowStep (by assumption) ?_ ?_) | (with_reducible exact Below.size (by assumption)) | go_size))⟩
      | false =>
        have hb : tB n d t = false := by simp [tB, h1, h2, hr]
        have E : Hid (tB n d t = false ∧ tT n d t = 0 ∧ tN n d t = 0 ∧ tD n d t = 0 ∧ redB (n * t - 1 * d) (d * t) = false) := Lib.hid ⟨hb, (tB_no hb).1, (tB_no hb).2.1, (tB_no hb).2.2, by rw [Int.one_mul]; exact hr⟩
        have hc := Lib.hid fun (w : World) => sub_yes n d 1 t w hg (good_unit ht h1) hx.out
        clear hr hb hgb
        go_enter Try.func89, Try.ntmps89
        go_wp2_with fail
        refine (hc.out _).mono ?_; rintro e w1 ⟨rfl, hb1⟩
        rw [E.out.2.2.2.2]
        obtain ⟨hc1, hf1⟩ := bcellB hb1; have hz1 := hb1.size; (try simp only [World.size_alloc] at hc1 hf1 hz1); (try have hy1_r_0 : wr.heap.size < w1.heap.size := by omega); (try have hn1_r_0 : wr.heap.size ≠ w1.heap.size := by omega); (try have hm1_r_0 : w1.heap.size ≠ wr.heap.size := by omega); (try have hy1_r_1 : wr.heap.size + 1 < w1.heap.size := by omega); (try have hn1_r_1 : wr.heap.size + 1 ≠ w1.heap.size := by omega); (try have hm1_r_1 : w1.heap.size ≠ wr.heap.size + 1 := by omega); (try have hy1_r_2 : wr.heap.size + 1 + 1 < w1.heap.size := by omega); (try have hp1_r_1 : wr.heap.size < w1.heap.size + 1 := by omega); (try have hp1_r_2 : wr.heap.size < w1.heap.size + 1 + 1 := by omega); (try have hy1_0_0 : w.heap.size < w1.heap.size := by omega); (try have hn1_0_0 : w.heap.size ≠ w1.heap.size := by omega); (try have hm1_0_0 : w1.heap.size ≠ w.heap.size := by omega); (try have hy1_0_1 : w.heap.size + 1 < w1.heap.size := by omega); (try have hn1_0_1 : w.heap.size + 1 ≠ w1.heap.size := by omega); (try have hm1_0_1 : w1.heap.size ≠ w.heap.size + 1 := by omega); (try have hy1_0_2 : w.heap.size + 1 + 1 < w1.heap.size := by omega); (try have hp1_0_1 : w.heap.size < w1.heap.size + 1 := by omega); (try have hp1_0_2 : w.heap.size < w1.heap.size + 1 + 1 := by omega); (try have hg1_g1 : g1 < w1.heap.size := by omega); (try have hi1_g1 : g1 ≠ w1.heap.size := by omega); (try have hj1_g1 : w1.heap.size ≠ g1 := by omega); (try have hk1_g1 : g1 < w1.heap.size + 1 := by omega); (try have hg1_g2 : g2 < w1.heap.size := by omega); (try have hi1_g2 : g2 ≠ w1.heap.size := by omega); (try have hj1_g2 : w1.heap.size ≠ g2 := by omega); (try have hk1_g2 : g2 < w1.heap.size + 1 := by omega)
        go_wp2
        refine bodyPost_ret (by simp [results, Try.results89, go_sem, *]; try rfl) rfl ?_
        rw [E.out.1, E.out.2.1, E.out.2.2.1, E.out.2.2.2.1]
        exact ⟨rfl, by (repeat' (first | (with_reducible exact Below.refl _ _) | (with_reducible assumption) | (with_reducible refine Below.drew ?_) | (with_reducible refine belowDrewN ?_ _) | (with_reducible refine Below.alloc ?_ ?_ _) | (with_reducible refine Below.setCell ?_ ?_ _) | (with_reducible refine belowStep (by assumption) ?_ ?_) | (with_reducible exact Below.size (by assumption)) | go_size))⟩
    · have hb : tB n d t = false := by simp [tB, h2]
      have E : Hid (tB n d t = false ∧ tT n d t = 0 ∧ tN n d t = 0 ∧ tD n d t = 0) := Lib.hid ⟨hb, tB_no hb⟩
      have hc := Lib.hid fun (w : World) => sub_less n d 1 t w hg (good_unit ht h1) (by omega)
      clear hb hgb
      go_enter Try.func89, Try.ntmps89
      go_wp2_with fail
      refine (hc.out _).mono ?_; rintro e w1 ⟨rfl, hb1⟩
      obtain ⟨hc1, hf1⟩ := bcellB hb1; have hz1 := hb1.size; (try simp only [World.size_alloc] at hc1 hf1 hz1); (try have hy1_r_0 : wr.heap.size < w1.heap.size := by omega); (try have hn1_r_0 : wr.heap.size ≠ w1.heap.size := by omega); (try have hm1_r_0 : w1.heap.size ≠ wr.heap.size := by omega); (try have hy1_r_1 : wr.heap.size + 1 < w1.heap.size := by omega); (try have hn1_r_1 : wr.heap.size + 1 ≠ w1.heap.size := by omega); (try have hm1_r_1 : w1.heap.size ≠ wr.heap.size + 1 := by omega); (try have hy1_r_2 : wr.heap.size + 1 + 1 < w1.heap.size := by omega); (try have hp1_r_1 : wr.heap.size < w1.heap.size + 1 := by omega); (try have hp1_r_2 : wr.heap.size < w1.heap.size + 1 + 1 := by omega); (try have hy1_0_0 : w.heap.size < w1.heap.size := by omega); (try have hn1_0_0 : w.heap.size ≠ w1.heap.size := by omega); (try have hm1_0_0 : w1.heap.size ≠ w.heap.size := by omega); (try have hy1_0_1 : w.heap.size + 1 < w1.heap.size := by omega); (try have hn1_0_1 : w.heap.size + 1 ≠ w1.heap.size := by omega); (try have hm1_0_1 : w1.heap.size ≠ w.heap.size + 1 := by omega); (try have hy1_0_2 : w.heap.size + 1 + 1 < w1.heap.size := by omega); (try have hp1_0_1 : w.heap.size < w1.heap.size + 1 := by omega); (try have hp1_0_2 : w.heap.size < w1.heap.size + 1 + 1 := by omega); (try have hg1_g1 : g1 < w1.heap.size := by omega); (try have hi1_g1 : g1 ≠ w1.heap.size := by omega); (try have hj1_g1 : w1.heap.size ≠ g1 := by omega); (try have hk1_g1 : g1 < w1.heap.size + 1 := by omega); (try have hg1_g2 : g2 < w1.heap.size := by omega); (try have hi1_g2 : g2 ≠ w1.heap.size := by omega); (try have hj1_g2 : w1.heap.size ≠ g2 := by omega); (try have hk1_g2 : g2 < w1.heap.size + 1 := by omega)
      go_wp2
      refine bodyPost_ret (by simp [results, Try.results89, go_sem, *]; try rfl) rfl ?_
      rw [E.out.1, E.out.2.1, E.out.2.2.1, E.out.2.2.2]
      exact ⟨rfl, by (repeat' (first | (with_reducible exact Below.refl _ _) | (with_reducible assumption) | (with_reducible refine Below.drew ?_) | (with_reducible refine belowDrewN ?_ _) | (with_reducible refine Below.alloc ?_ ?_ _) | (with_reducible refine Below.setCell ?_ ?_ _) | (with_reducible refine belowStep (by assumption) ?_ ?_) | (with_reducible exact Below.size (by assumption)) | go_size))⟩
  · have hb : tB n d t = false := by simp [tB, h1]
    have E : Hid (tB n d t = false ∧ tT n d t = 0 ∧ tN n d t = 0 ∧ tD n d t = 0) := Lib.hid ⟨hb, tB_no hb⟩
    have hgu := good_unit_no (t := t) (by omega)
    have hc := Lib.hid fun (w : World) => sub_no n d 1 t w ⟨by omega, by omega⟩ ⟨by omega, by omega⟩ ⟨by omega, by omega⟩ ⟨by omega, by omega⟩ (fun h => by rw [hgu] at h; cases h.2)
    clear hb hgb hgu
    go_enter Try.func89, Try.ntmps89
    go_wp2_with fail
    refine (hc.out _).mono ?_; rintro e w1 ⟨rfl, hb1⟩
    obtain ⟨hc1, hf1⟩ := bcellB hb1; have hz1 := hb1.size; (try simp only [World.size_alloc] at hc1 hf1 hz1); (try have hy1_r_0 : wr.heap.size < w1.heap.size := by omega); (try have hn1_r_0 : wr.heap.size ≠ w1.heap.size := by omega); (try have hm1_r_0 : w1.heap.size ≠ wr.heap.size := by omega); (try have hy1_r_1 : wr.heap.size + 1 < w1.heap.size := by omega); (try have hn1_r_1 : wr.heap.size + 1 ≠ w1.heap.size := by omega); (try have hm1_r_1 : w1.heap.size ≠ wr.heap.size + 1 := by omega); (try have hy1_r_2 : wr.heap.size + 1 + 1 < w1.heap.size := by omega); (try have hp1_r_1 : wr.heap.size < w1.heap.size + 1 := by omega); (try have hp1_r_2 : wr.heap.size < w1.heap.size + 1 + 1 := by omega); (try have hy1_0_0 : w.heap.size < w1.heap.size := by omega); (try have hn1_0_0 : w.heap.size ≠ w1.heap.size := by omega); (try have hm1_0_0 : w1.heap.size ≠ w.heap.size := by omega); (try have hy1_0_1 : w.heap.size + 1 < w1.heap.size := by omega); (try have hn1_0_1 : w.heap.size + 1 ≠ w1.heap.size := by omega); (try have hm1_0_1 : w1.heap.size ≠ w.heap.size + 1 := by omega); (try have hy1_0_2 : w.heap.size + 1 + 1 < w1.heap.size := by omega); (try have hp1_0_1 : w.heap.size < w1.heap.size + 1 := by omega); (try have hp1_0_2 : w.heap.size < w1.heap.size + 1 + 1 := by omega); (try have hg1_g1 : g1 < w1.heap.size := by omega); (try have hi1_g1 : g1 ≠ w1.heap.size := by omega); (try have hj1_g1 : w1.heap.size ≠ g1 := by omega); (try have hk1_g1 : g1 < w1.heap.size + 1 := by omega); (try have hg1_g2 : g2 < w1.heap.size := by omega); (try have hi1_g2 : g2 ≠ w1.heap.size := by omega); (try have hj1_g2 : w1.heap.size ≠ g2 := by omega); (try have hk1_g2 : g2 < w1.heap.size + 1 := by omega)
    go_wp2
    refine bodyPost_ret (by simp [results, Try.results89, go_sem, *]; try rfl) rfl ?_
    rw [E.out.1, E.out.2.1, E.out.2.2.1, E.out.2.2.2]
    exact ⟨rfl, by (repeat' (first | (with_reducible exact Below.refl _ _) | (with_reducible assumption) | (with_reducible refine Below.drew ?_) | (with_reducible refine belowDrewN ?_ _) | (with_reducible refine Below.alloc ?_ ?_ _) | (with_reducible refine Below.setCell ?_ ?_ _) | (with_reducible refine belowStep (by assumption) ?_ ?_) | (with_reducible exact Below.size (by assumption)) | go_size))⟩
/-- may be stepped from -/
def stepB (n d : Int) : Bool := goodB n d && decide (n ≠ 0)
theorem stepB_yes {n d : Int} (h : stepB n d = true) : goodB n d = true ∧ 1 ≤ n := by
  simp only [stepB, Bool.and_eq_true, decide_eq_true_eq] at h
  have := good_bounds h.1
  exact ⟨h.1, by omega⟩
theorem ucd_tB {n d : Int} (hg : goodB n d = true) (hn : 1 ≤ n) : tB n d (ucd n d) = redB (n * ucd n d - d) (d * ucd n d) := by
  obtain ⟨_, _, d1, d2⟩ := good_bounds hg
  obtain ⟨u1, u2, u3, u4⟩ := ucd_facts hn d1
  have h1 : ucd n d ≤ 1000000000 := by omega
  simp [tB, h1, u2]
set_option maxHeartbeats 2000000 in
theorem greedyStep_yes (n d : Int) (w : World) (h : stepB n d = true) : Calls Try.prog 86 #[.agg #[.int .i64 n, .int .i64 d]] w (Ret (.tuple #[.int .i64 (tT n d (ucd n d)), .agg #[.int .i64 (tN n d (ucd n d)), .int .i64 (tD n d (ucd n d))], .bool (tB n d (ucd n d))]) w) := by
  obtain ⟨hg, hn⟩ := stepB_yes h
  obtain ⟨_, n2, d1, d2⟩ := good_bounds hg
  obtain ⟨u1, u2, u3, u4⟩ := ucd_facts hn d1
  have Hg := Lib.hid hg
  have hne : ¬ n = 0 := by omega
  have hz : (n == 0) = false := by simp [hne]
  clear u2 u3 h
  go_enter Try.func86, Try.ntmps86
  go_wp2_with (go_at_call 84; refine (isFraction_any _ _ _ (by omega) (by omega) (by omega) (by omega)).mono ?_; rintro e w1 ⟨rfl, hb1⟩; obtain ⟨hc1, hf1⟩ := bcellB hb1; have hz1 := hb1.size; (try simp only [World.size_alloc] at hc1 hf1 hz1); (try have hy1_r_0 : wr.heap.size < w1.heap.size := by omega); (try have hn1_r_0 : wr.heap.size ≠ w1.heap.size := by omega); (try have hm1_r_0 : w1.heap.size ≠ wr.heap.size := by omega); (try have hy1_r_1 : wr.heap.size + 1 < w1.heap.size := by omega); (try have hn1_r_1 : wr.heap.size + 1 ≠ w1.heap.size := by omega); (try have hm1_r_1 : w1.heap.size ≠ wr.heap.size + 1 := by omega); (try have hy1_r_2 : wr.heap.size + 1 + 1 < w1.heap.size := by omega); (try have hp1_r_1 : wr.heap.size < w1.heap.size + 1 := by omega); (try have hp1_r_2 : wr.heap.size < w1.heap.size + 1 + 1 := by omega); (try have hy1_0_0 : w.heap.size < w1.heap.size := by omega); (try have hn1_0_0 : w.heap.size ≠ w1.heap.size := by omega); (try have hm1_0_0 : w1.heap.size ≠ w.heap.size := by omega); (try have hy1_0_1 : w.heap.size + 1 < w1.heap.size := by omega); (try have hn1_0_1 : w.heap.size + 1 ≠ w1.heap.size := by omega); (try have hm1_0_1 : w1.heap.size ≠ w.heap.size + 1 := by omega); (try have hy1_0_2 : w.heap.size + 1 + 1 < w1.heap.size := by omega); (try have hp1_0_1 : w.heap.size < w1.heap.size + 1 := by omega); (try have hp1_0_2 : w.heap.size < w1.heap.size + 1 + 1 := by omega); (try have hg1_g1 : g1 < w1.heap.size := by omega); (try have hi1_g1 : g1 ≠ w1.heap.size := by omega); (try have hj1_g1 : w1.heap.size ≠ g1 := by omega); (try have hk1_g1 : g1 < w1.heap.size + 1 := by omega); (try have hg1_g2 : g2 < w1.heap.size := by omega); (try have hi1_g2 : g2 ≠ w1.heap.size := by omega); (try have hj1_g2 : w1.heap.size ≠ g2 := by omega); (try have hk1_g2 : g2 < w1.heap.size + 1 := by omega))
  go_region_with (first | (go_at_call 90; refine (leastUnder_any _ _ _ (by omega) (by omega) (by omega) (by omega)).mono ?_; rintro e w2 ⟨rfl, hb2⟩; obtain ⟨hc2, hf2⟩ := bcellB hb2; have hz2 := hb2.size; (try simp only [World.size_drew] at hc2 hf2 hz2); (try have hy2_r_0 : wr.heap.size < w2.heap.size := by omega); (try have hn2_r_0 : wr.heap.size ≠ w2.heap.size := by omega); (try have hm2_r_0 : w2.heap.size ≠ wr.heap.size := by omega); (try have hy2_r_1 : wr.heap.size + 1 < w2.heap.size := by omega); (try have hn2_r_1 : wr.heap.size + 1 ≠ w2.heap.size := by omega); (try have hm2_r_1 : w2.heap.size ≠ wr.heap.size + 1 := by omega); (try have hy2_r_2 : wr.heap.size + 1 + 1 < w2.heap.size := by omega); (try have hp2_r_1 : wr.heap.size < w2.heap.size + 1 := by omega); (try have hp2_r_2 : wr.heap.size < w2.heap.size + 1 + 1 := by omega); (try have hy2_0_0 : w.heap.size < w2.heap.size := by omega); (try have hn2_0_0 : w.heap.size ≠ w2.heap.size := by omega); (try have hm2_0_0 : w2.heap.size ≠ w.heap.size := by omega); (try have hy2_0_1 : w.heap.size + 1 < w2.heap.size := by omega); (try have hn2_0_1 : w.heap.size + 1 ≠ w2.heap.size := by omega); (try have hm2_0_1 : w2.heap.size ≠ w.heap.size + 1 := by omega); (try have hy2_0_2 : w.heap.size + 1 + 1 < w2.heap.size := by omega); (try have hp2_0_1 : w.heap.size < w2.heap.size + 1 := by omega); (try have hp2_0_2 : w.heap.size < w2.heap.size + 1 + 1 := by omega); (try have hy2_1_0 : w1.heap.size < w2.heap.size := by omega); (try have hn2_1_0 : w1.heap.size ≠ w2.heap.size := by omega); (try have hm2_1_0 : w2.heap.size ≠ w1.heap.size := by omega); (try have hy2_1_1 : w1.heap.size + 1 < w2.heap.size := by omega); (try have hn2_1_1 : w1.heap.size + 1 ≠ w2.heap.size := by omega); (try have hm2_1_1 : w2.heap.size ≠ w1.heap.size + 1 := by omega); (try have hy2_1_2 : w1.heap.size + 1 + 1 < w2.heap.size := by omega); (try have hp2_1_1 : w1.heap.size < w2.heap.size + 1 := by omega); (try have hp2_1_2 : w1.heap.size < w2.heap.size + 1 + 1 := by omega); (try have hg2_g1 : g1 < w2.heap.size := by omega); (try have hi2_g1 : g1 ≠ w2.heap.size := by omega); (try have hj2_g1 : w2.heap.size ≠ g1 := by omega); (try have hk2_g1 : g1 < w2.heap.size + 1 := by omega); (try have hg2_g2 : g2 < w2.heap.size := by omega); (try have hi2_g2 : g2 ≠ w2.heap.size := by omega); (try have hj2_g2 : w2.heap.size ≠ g2 := by omega); (try have hk2_g2 : g2 < w2.heap.size + 1 := by omega)) | (go_at_call 89; refine (takeUnit_any _ _ _ _ Hg.out (by omega) (by omega)).mono ?_; rintro e w3 ⟨rfl, hb3⟩; obtain ⟨hc3, hf3⟩ := bcellB hb3; have hz3 := hb3.size; (try simp only [World.size_alloc, World.size_setCell, World.size_drew, World.heap_drewN] at hc3 hf3 hz3); (try have hy3_r_0 : wr.heap.size < w3.heap.size := by omega); (try have hn3_r_0 : wr.heap.size ≠ w3.heap.size := by omega); (try have hm3_r_0 : w3.heap.size ≠ wr.heap.size := by omega); (try have hy3_r_1 : wr.heap.size + 1 < w3.heap.size := by omega); (try have hn3_r_1 : wr.heap.size + 1 ≠ w3.heap.size := by omega); (try have hm3_r_1 : w3.heap.size ≠ wr.heap.size + 1 := by omega); (try have hy3_r_2 : wr.heap.size + 1 + 1 < w3.heap.size := by omega); (try have hp3_r_1 : wr.heap.size < w3.heap.size + 1 := by omega); (try have hp3_r_2 : wr.heap.size < w3.heap.size + 1 + 1 := by omega); (try have hy3_0_0 : w.heap.size < w3.heap.size := by omega); (try have hn3_0_0 : w.heap.size ≠ w3.heap.size := by omega); (try have hm3_0_0 : w3.heap.size ≠ w.heap.size := by omega); (try have hy3_0_1 : w.heap.size + 1 < w3.heap.size := by omega); (try have hn3_0_1 : w.heap.size + 1 ≠ w3.heap.size := by omega); (try have hm3_0_1 : w3.heap.size ≠ w.heap.size + 1 := by omega); (try have hy3_0_2 : w.heap.size + 1 + 1 < w3.heap.size := by omega); (try have hp3_0_1 : w.heap.size < w3.heap.size + 1 := by omega); (try have hp3_0_2 : w.heap.size < w3.heap.size + 1 + 1 := by omega); (try have hy3_1_0 : w1.heap.size < w3.heap.size := by omega); (try have hn3_1_0 : w1.heap.size ≠ w3.heap.size := by omega); (try have hm3_1_0 : w3.heap.size ≠ w1.heap.size := by omega); (try have hy3_1_1 : w1.heap.size + 1 < w3.heap.size := by omega); (try have hn3_1_1 : w1.heap.size + 1 ≠ w3.heap.size := by omega); (try have hm3_1_1 : w3.heap.size ≠ w1.heap.size + 1 := by omega); (try have hy3_1_2 : w1.heap.size + 1 + 1 < w3.heap.size := by omega); (try have hp3_1_1 : w1.heap.size < w3.heap.size + 1 := by omega); (try have hp3_1_2 : w1.heap.size < w3.heap.size + 1 + 1 := by omega); (try have hy3_2_0 : w2.heap.size < w3.heap.size := by omega); (try have hn3_2_0 : w2.heap.size ≠ w3.heap.size := by omega); (try have hm3_2_0 : w3.heap.size ≠ w2.heap.size := by omega); (try have hy3_2_1 : w2.heap.size + 1 < w3.heap.size := by omega); (try have hn3_2_1 : w2.heap.size + 1 ≠ w3.heap.size := by omega); (try have hm3_2_1 : w3.heap.size ≠ w2.heap.size + 1 := by omega); (try have hy3_2_2 : w2.heap.size + 1 + 1 < w3.heap.size := by omega); (try have hp3_2_1 : w2.heap.size < w3.heap.size + 1 := by omega); (try have hp3_2_2 : w2.heap.size < w3.heap.size + 1 + 1 := by omega); (try have hg3_g1 : g1 < w3.heap.size := by omega); (try have hi3_g1 : g1 ≠ w3.heap.size := by omega); (try have hj3_g1 : w3.heap.size ≠ g1 := by omega); (try have hk3_g1 : g1 < w3.heap.size + 1 := by omega); (try have hg3_g2 : g2 < w3.heap.size := by omega); (try have hi3_g2 : g2 ≠ w3.heap.size := by omega); (try have hj3_g2 : w3.heap.size ≠ g2 := by omega); (try have hk3_g2 : g2 < w3.heap.size + 1 := by omega)))
  all_goals
    go_wp2_with fail
    refine bodyPost_ret (by simp [results, Try.results86, go_sem, *]; try rfl) rfl ?_
    exact ⟨rfl, by (repeat' (first | (with_reducible exact Below.refl _ _) | (with_reducible assumption) | (with_reducible refine Below.drew ?_) | (with_reducible refine belowDrewN ?_ _) | (with_reducible refine Below.alloc ?_ ?_ _) | (with_reducible refine Below.setCell ?_ ?_ _) | (with_reducible refine belowStep (by assumption) ?_ ?_) | (with_reducible exact Below.size (by assumption)) | go_size))⟩
theorem greedyStep_no (n d : Int) (w : World) (rn : -9223372036854775808 ≤ n ∧ n ≤ 9223372036854775807) (rd : -9223372036854775808 ≤ d ∧ d ≤ 9223372036854775807) (h : stepB n d = false) : Calls Try.prog 86 #[.agg #[.int .i64 n, .int .i64 d]] w (Ret (.tuple #[.int .i64 0, .agg #[.int .i64 0, .int .i64 0], .bool false]) w) := by
  cases hg : goodB n d with
  | false =>
    clear h
    go_enter Try.func86, Try.ntmps86
    go_wp2_with (go_at_call 84; refine (isFraction_any _ _ _ (by omega) (by omega) (by omega) (by omega)).mono ?_; rintro e w1 ⟨rfl, hb1⟩; obtain ⟨hc1, hf1⟩ := bcellB hb1; have hz1 := hb1.size; (try simp only [World.size_alloc] at hc1 hf1 hz1); (try have hy1_r_0 : wr.heap.size < w1.heap.size := by omega); (try have hn1_r_0 : wr.heap.size ≠ w1.heap.size := by omega); (try have hm1_r_0 : w1.heap.size ≠ wr.heap.size := by omega); (try have hy1_r_1 : wr.heap.size + 1 < w1.heap.size := by omega); (try have hn1_r_1 : wr.heap.size + 1 ≠ w1.heap.size := by omega); (try have hm1_r_1 : w1.heap.size ≠ wr.heap.size + 1 := by omega); (try have hy1_r_2 : wr.heap.size + 1 + 1 < w1.heap.size := by omega); (try have hp1_r_1 : wr.heap.size < w1.heap.size + 1 := by omega); (try have hp1_r_2 : wr.heap.size < w1.heap.size + 1 + 1 := by omega); (try have hy1_0_0 : w.heap.size < w1.heap.size := by omega); (try have hn1_0_0 : w.heap.size ≠ w1.heap.size := by omega); (try have hm1_0_0 : w1.heap.size ≠ w.heap.size := by omega); (try have hy1_0_1 : w.heap.size + 1 < w1.heap.size := by omega); (try have hn1_0_1 : w.heap.size + 1 ≠ w1.heap.size := by omega); (try have hm1_0_1 : w1.heap.size ≠ w.heap.size + 1 := by omega); (try have hy1_0_2 : w.heap.size + 1 + 1 < w1.heap.size := by omega); (try have hp1_0_1 : w.heap.size < w1.heap.size + 1 := by omega); (try have hp1_0_2 : w.heap.size < w1.heap.size + 1 + 1 := by omega); (try have hg1_g1 : g1 < w1.heap.size := by omega); (try have hi1_g1 : g1 ≠ w1.heap.size := by omega); (try have hj1_g1 : w1.heap.size ≠ g1 := by omega); (try have hk1_g1 : g1 < w1.heap.size + 1 := by omega); (try have hg1_g2 : g2 < w1.heap.size := by omega); (try have hi1_g2 : g2 ≠ w1.heap.size := by omega); (try have hj1_g2 : w1.heap.size ≠ g2 := by omega); (try have hk1_g2 : g2 < w1.heap.size + 1 := by omega))
    refine bodyPost_ret (by simp [results, Try.results86, go_sem, *]; try rfl) rfl ?_
    exact ⟨rfl, by (repeat' (first | (with_reducible exact Below.refl _ _) | (with_reducible assumption) | (with_reducible refine Below.drew ?_) | (with_reducible refine belowDrewN ?_ _) | (with_reducible refine Below.alloc ?_ ?_ _) | (with_reducible refine Below.setCell ?_ ?_ _) | (with_reducible refine belowStep (by assumption) ?_ ?_) | (with_reducible exact Below.size (by assumption)) | go_size))⟩
  | true =>
    have hn : n = 0 := by simpa [stepB, hg] using h
    subst hn
    clear h
    go_enter Try.func86, Try.ntmps86
    go_wp2_with (go_at_call 84; refine (isFraction_any _ _ _ (by omega) (by omega) (by omega) (by omega)).mono ?_; rintro e w1 ⟨rfl, hb1⟩; obtain ⟨hc1, hf1⟩ := bcellB hb1; have hz1 := hb1.size; (try simp only [World.size_alloc] at hc1 hf1 hz1); (try have hy1_r_0 : wr.heap.size < w1.heap.size := by omega); (try have hn1_r_0 : wr.heap.size ≠ w1.heap.size := by omega); (try have hm1_r_0 : w1.heap.size ≠ wr.heap.size := by omega); (try have hy1_r_1 : wr.heap.size + 1 < w1.heap.size := by omega); (try have hn1_r_1 : wr.heap.size + 1 ≠ w1.heap.size := by omega); (try have hm1_r_1 : w1.heap.size ≠ wr.heap.size + 1 := by omega); (try have hy1_r_2 : wr.heap.size + 1 + 1 < w1.heap.size := by omega); (try have hp1_r_1 : wr.heap.size < w1.heap.size + 1 := by omega); (try have hp1_r_2 : wr.heap.size < w1.heap.size + 1 + 1 := by omega); (try have hy1_0_0 : w.heap.size < w1.heap.size := by omega); (try have hn1_0_0 : w.heap.size ≠ w1.heap.size := by omega); (try have hm1_0_0 : w1.heap.size ≠ w.heap.size := by omega); (try have hy1_0_1 : w.heap.size + 1 < w1.heap.size := by omega); (try have hn1_0_1 : w.heap.size + 1 ≠ w1.heap.size := by omega); (try have hm1_0_1 : w1.heap.size ≠ w.heap.size + 1 := by omega); (try have hy1_0_2 : w.heap.size + 1 + 1 < w1.heap.size := by omega); (try have hp1_0_1 : w.heap.size < w1.heap.size + 1 := by omega); (try have hp1_0_2 : w.heap.size < w1.heap.size + 1 + 1 := by omega); (try have hg1_g1 : g1 < w1.heap.size := by omega); (try have hi1_g1 : g1 ≠ w1.heap.size := by omega); (try have hj1_g1 : w1.heap.size ≠ g1 := by omega); (try have hk1_g1 : g1 < w1.heap.size + 1 := by omega); (try have hg1_g2 : g2 < w1.heap.size := by omega); (try have hi1_g2 : g2 ≠ w1.heap.size := by omega); (try have hj1_g2 : w1.heap.size ≠ g2 := by omega); (try have hk1_g2 : g2 < w1.heap.size + 1 := by omega))
    refine bodyPost_ret (by simp [results, Try.results86, go_sem, *]; try rfl) rfl ?_
    exact ⟨rfl, by (repeat' (first | (with_reducible exact Below.refl _ _) | (with_reducible assumption) | (with_reducible refine Below.drew ?_) | (with_reducible refine belowDrewN ?_ _) | (with_reducible refine Below.alloc ?_ ?_ _) | (with_reducible refine Below.setCell ?_ ?_ _) | (with_reducible refine belowStep (by assumption) ?_ ?_) | (with_reducible exact Below.size (by assumption)) | go_size))⟩
/-- the model takes a unit fraction away, and then looks whether what is left is a fraction -/
theorem minusUnit_any (n d t : Int) (w : World) (hg : goodB n d = true) (ht : 1 ≤ t) (ht2 : t ≤ 1000000000) (hl : d ≤ n * t) :
    Calls Try.prog 82 #[.agg #[.int .i64 n, .int .i64 d], .agg #[.int .i64 1, .int .i64 t]] w (Ret (.agg #[.int .i64 ((n * t - d) / gcdI (n * t - d) (d * t)), .int .i64 ((d * t) / gcdI (n * t - d) (d * t))]) w) := by
  have h := unMinus_any n d 1 t w hg (good_unit ht ht2) (by omega)
  rw [Int.one_mul] at h
  exact h
theorem tB_of {n d t : Int} (hd : 1 ≤ d) (ht : 1 ≤ t) (ht2 : t ≤ 1000000000) (hl : d ≤ n * t) : goodB ((n * t - d) / gcdI (n * t - d) (d * t)) ((d * t) / gcdI (n * t - d) (d * t)) = tB n d t := by
  rw [good_red (by omega) (mul_pos1 hd ht)]
  simp [tB, ht2, hl]
/-- a fraction below 1, or up to 1 -/
def belowB (n d : Int) : Bool := goodB n d && decide (n < d)
def atMostB (n d : Int) : Bool := goodB n d && decide (n ≤ d)
theorem belowB_yes {n d : Int} (h : belowB n d = true) : goodB n d = true ∧ n < d := by simpa [belowB] using h
theorem atMostB_yes {n d : Int} (h : atMostB n d = true) : goodB n d = true ∧ n ≤ d := by simpa [atMostB] using h
theorem grAtMost_any (n d : Int) (w : World) : Calls Try.prog 71 #[.agg #[.int .i64 n, .int .i64 d]] w (Ret (.bool (atMostB n d)) w) := by
  cases hg : goodB n d with
  | false =>
    have E : Hid (atMostB n d = false) := Lib.hid (by simp [atMostB, hg])
    go_enter Try.func71, Try.ntmps71
    go_wp2_with (go_at_call 79; refine (unGood_any _ _ _).mono ?_; rintro e w1 ⟨rfl, hb1⟩; obtain ⟨hc1, hf1⟩ := bcellB hb1; have hz1 := hb1.size; (try simp only [World.size_alloc] at hc1 hf1 hz1); (try have hy1_r_0 : wr.heap.size < w1.heap.size := by omega); (try have hn1_r_0 : wr.heap.size ≠ w1.heap.size := by omega); (try have hm1_r_0 : w1.heap.size ≠ wr.heap.size := by omega); (try have hy1_r_1 : wr.heap.size + 1 < w1.heap.size := by omega); (try have hn1_r_1 : wr.heap.size + 1 ≠ w1.heap.size := by omega); (try have hm1_r_1 : w1.heap.size ≠ wr.heap.size + 1 := by omega); (try have hy1_r_2 : wr.heap.size + 1 + 1 < w1.heap.size := by omega); (try have hp1_r_1 : wr.heap.size < w1.heap.size + 1 := by omega); (try have hp1_r_2 : wr.heap.size < w1.heap.size + 1 + 1 := by omega); (try have hy1_0_0 : w.heap.size < w1.heap.size := by omega); (try have hn1_0_0 : w.heap.size ≠ w1.heap.size := by omega); (try have hm1_0_0 : w1.heap.size ≠ w.heap.size := by omega); (try have hy1_0_1 : w.heap.size + 1 < w1.heap.size := by omega); (try have hn1_0_1 : w.heap.size + 1 ≠ w1.heap.size := by omega); (try have hm1_0_1 : w1.heap.size ≠ w.heap.size + 1 := by omega); (try have hy1_0_2 : w.heap.size + 1 + 1 < w1.heap.size := by omega); (try have hp1_0_1 : w.heap.size < w1.heap.size + 1 := by omega); (try have hp1_0_2 : w.heap.size < w1.heap.size + 1 + 1 := by omega); (try have hg1_g1 : g1 < w1.heap.size := by omega); (try have hi1_g1 : g1 ≠ w1.heap.size := by omega); (try have hj1_g1 : w1.heap.size ≠ g1 := by omega); (try have hk1_g1 : g1 < w1.heap.size + 1 := by omega); (try have hg1_g2 : g2 < w1.heap.size := by omega); (try have hi1_g2 : g2 ≠ w1.heap.size := by omega); (try have hj1_g2 : w1.heap.size ≠ g2 := by omega); (try have hk1_g2 : g2 < w1.heap.size + 1 := by omega))
    go_returns
    exact ⟨ret_bool E.out.symm, by (repeat' (first | (with_reducible exact Below.refl _ _) | (with_reducible assumption) | (with_reducible refine Below.drew ?_) | (with_reducible refine belowDrewN ?_ _) | (with_reducible refine Below.alloc ?_ ?_ _) | (with_reducible refine Below.setCell ?_ ?_ _) | (with_reducible refine belowStep (by assumption) ?_ ?_) | (with_reducible exact Below.size (by assumption)) | go_size))⟩
  | true =>
    have E : Hid (atMostB n d = decide (n ≤ d)) := Lib.hid (by simp [atMostB, hg])
    go_enter Try.func71, Try.ntmps71
    go_wp2_with (go_at_call 79; refine (unGood_any _ _ _).mono ?_; rintro e w1 ⟨rfl, hb1⟩; obtain ⟨hc1, hf1⟩ := bcellB hb1; have hz1 := hb1.size; (try simp only [World.size_alloc] at hc1 hf1 hz1); (try have hy1_r_0 : wr.heap.size < w1.heap.size := by omega); (try have hn1_r_0 : wr.heap.size ≠ w1.heap.size := by omega); (try have hm1_r_0 : w1.heap.size ≠ wr.heap.size := by omega); (try have hy1_r_1 : wr.heap.size + 1 < w1.heap.size := by omega); (try have hn1_r_1 : wr.heap.size + 1 ≠ w1.heap.size := by omega); (try have hm1_r_1 : w1.heap.size ≠ wr.heap.size + 1 := by omega); (try have hy1_r_2 : wr.heap.size + 1 + 1 < w1.heap.size := by omega); (try have hp1_r_1 : wr.heap.size < w1.heap.size + 1 := by omega); (try have hp1_r_2 : wr.heap.size < w1.heap.size + 1 + 1 := by omega); (try have hy1_0_0 : w.heap.size < w1.heap.size := by omega); (try have hn1_0_0 : w.heap.size ≠ w1.heap.size := by omega); (try have hm1_0_0 : w1.heap.size ≠ w.heap.size := by omega); (try have hy1_0_1 : w.heap.size + 1 < w1.heap.size := by omega); (try have hn1_0_1 : w.heap.size + 1 ≠ w1.heap.size := by omega); (try have hm1_0_1 : w1.heap.size ≠ w.heap.size + 1 := by omega); (try have hy1_0_2 : w.heap.size + 1 + 1 < w1.heap.size := by omega); (try have hp1_0_1 : w.heap.size < w1.heap.size + 1 := by omega); (try have hp1_0_2 : w.heap.size < w1.heap.size + 1 + 1 := by omega); (try have hg1_g1 : g1 < w1.heap.size := by omega); (try have hi1_g1 : g1 ≠ w1.heap.size := by omega); (try have hj1_g1 : w1.heap.size ≠ g1 := by omega); (try have hk1_g1 : g1 < w1.heap.size + 1 := by omega); (try have hg1_g2 : g2 < w1.heap.size := by omega); (try have hi1_g2 : g2 ≠ w1.heap.size := by omega); (try have hj1_g2 : w1.heap.size ≠ g2 := by omega); (try have hk1_g2 : g2 < w1.heap.size + 1 := by omega))
    go_returns
    exact ⟨ret_bool E.out.symm, by (repeat' (first | (with_reducible exact Below.refl _ _) | (with_reducible assumption) | (with_reducible refine Below.drew ?_) | (with_reducible refine belowDrewN ?_ _) | (with_reducible refine Below.alloc ?_ ?_ _) | (with_reducible refine Below.setCell ?_ ?_ _) | (with_reducible refine belowStep (by assumption) ?_ ?_) | (with_reducible exact Below.size (by assumption)) | go_size))⟩
end Go.Proofs.Ythkchhjidihkpaa
