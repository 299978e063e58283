import Derived.Test.YtleookfdngnphaaPk10
import Derived.Test.YtleookfdngnphaaPk1
import Derived.Test.YtleookfdngnphaaPk2

/-
  Contracts of the test of a near fraction and its number in the model.
-/
namespace Go.Proofs.Ytleookfdngnphaa
open Go.RowKit
set_option maxHeartbeats 400000 in
theorem net1 (n d k : Int) (w : World) (HI : Hid (∀ w, Calls Try.prog 129 #[.agg #[.int .i64 n, .int .i64 d]] w (Ret (.bool false) w))) : Calls Try.prog 155 #[.agg #[.int .i64 n, .int .i64 d], .int .i64 k] w (Ret (.bool false) w) := by
  go_enter Try.func155, Try.ntmps155
  go_wp2_with (go_at_call 129; refine (HI.out _).mono ?_; rintro e w1 ⟨rfl, hb1⟩; obtain ⟨hc1, hf1⟩ := bcellB hb1; have hz1 := hb1.size; (try simp only [World.size_alloc] at hc1 hf1 hz1); (try have hy1_r_0 : wr.heap.size < w1.heap.size := by omega); (try have hn1_r_0 : wr.heap.size ≠ w1.heap.size := by omega); (try have hm1_r_0 : w1.heap.size ≠ wr.heap.size := by omega); (try have hy1_r_1 : wr.heap.size + 1 < w1.heap.size := by omega); (try have hn1_r_1 : wr.heap.size + 1 ≠ w1.heap.size := by omega); (try have hm1_r_1 : w1.heap.size ≠ wr.heap.size + 1 := by omega); (try have hy1_r_2 : wr.heap.size + 1 + 1 < w1.heap.size := by omega); (try have hp1_r_1 : wr.heap.size < w1.heap.size + 1 := by omega); (try have hp1_r_2 : wr.heap.size < w1.heap.size + 1 + 1 := by omega); (try have hy1_0_0 : w.heap.size < w1.heap.size := by omega); (try have hn1_0_0 : w.heap.size ≠ w1.heap.size := by omega); (try have hm1_0_0 : w1.heap.size ≠ w.heap.size := by omega); (try have hy1_0_1 : w.heap.size + 1 < w1.heap.size := by omega); (try have hn1_0_1 : w.heap.size + 1 ≠ w1.heap.size := by omega); (try have hm1_0_1 : w1.heap.size ≠ w.heap.size + 1 := by omega); (try have hy1_0_2 : w.heap.size + 1 + 1 < w1.heap.size := by omega); (try have hp1_0_1 : w.heap.size < w1.heap.size + 1 := by omega); (try have hp1_0_2 : w.heap.size < w1.heap.size + 1 + 1 := by omega); (try have hg1_g1 : g1 < w1.heap.size := by omega); (try have hi1_g1 : g1 ≠ w1.heap.size := by omega); (try have hj1_g1 : w1.heap.size ≠ g1 := by omega); (try have hk1_g1 : g1 < w1.heap.size + 1 := by omega); (try have hg1_g2 : g2 < w1.heap.size := by omega); (try have hi1_g2 : g2 ≠ w1.heap.size := by omega); (try have hj1_g2 : w1.heap.size ≠ g2 := by omega); (try have hk1_g2 : g2 < w1.heap.size + 1 := by omega))
  all_goals go_returns
  all_goals exact ⟨ret_bool (by first | rfl | (simp; omega)), by (repeat' (first | (with_reducible exact Below.refl _ _) | (with_reducible assumption) | (with_reducible refine Below.drew ?_) | (with_reducible refine belowDrewN ?_ _) | (with_reducible refine Below.alloc ?_ ?_ _) | (with_reducible refine Below.setCell ?_ ?_ _) | (with_reducible refine belowStep (by assumption) ?_ ?_) | (with_reducible exact Below.size (by assumption)) | go_size))⟩
set_option maxHeartbeats 400000 in
theorem net2 (n d k : Int) (w : World) (_ : 0 ≤ n) (_ : n ≤ 1000000000) (_ : 1 ≤ d) (_ : d ≤ 1000000000) (h1 : 12 < d) (HI : Hid (∀ w, Calls Try.prog 129 #[.agg #[.int .i64 n, .int .i64 d]] w (Ret (.bool true) w))) : Calls Try.prog 155 #[.agg #[.int .i64 n, .int .i64 d], .int .i64 k] w (Ret (.bool false) w) := by
  go_enter Try.func155, Try.ntmps155
  go_wp2_with (go_at_call 129; refine (HI.out _).mono ?_; rintro e w1 ⟨rfl, hb1⟩; obtain ⟨hc1, hf1⟩ := bcellB hb1; have hz1 := hb1.size; (try simp only [World.size_alloc] at hc1 hf1 hz1); (try have hy1_r_0 : wr.heap.size < w1.heap.size := by omega); (try have hn1_r_0 : wr.heap.size ≠ w1.heap.size := by omega); (try have hm1_r_0 : w1.heap.size ≠ wr.heap.size := by omega); (try have hy1_r_1 : wr.heap.size + 1 < w1.heap.size := by omega); (try have hn1_r_1 : wr.heap.size + 1 ≠ w1.heap.size := by omega); (try have hm1_r_1 : w1.heap.size ≠ wr.heap.size + 1 := by omega); (try have hy1_r_2 : wr.heap.size + 1 + 1 < w1.heap.size := by omega); (try have hp1_r_1 : wr.heap.size < w1.heap.size + 1 := by omega); (try have hp1_r_2 : wr.heap.size < w1.heap.size + 1 + 1 := by omega); (try have hy1_0_0 : w.heap.size < w1.heap.size := by omega); (try have hn1_0_0 : w.heap.size ≠ w1.heap.size := by omega); (try have hm1_0_0 : w1.heap.size ≠ w.heap.size := by omega); (try have hy1_0_1 : w.heap.size + 1 < w1.heap.size := by omega); (try have hn1_0_1 : w.heap.size + 1 ≠ w1.heap.size := by omega); (try have hm1_0_1 : w1.heap.size ≠ w.heap.size + 1 := by omega); (try have hy1_0_2 : w.heap.size + 1 + 1 < w1.heap.size := by omega); (try have hp1_0_1 : w.heap.size < w1.heap.size + 1 := by omega); (try have hp1_0_2 : w.heap.size < w1.heap.size + 1 + 1 := by omega); (try have hg1_g1 : g1 < w1.heap.size := by omega); (try have hi1_g1 : g1 ≠ w1.heap.size := by omega); (try have hj1_g1 : w1.heap.size ≠ g1 := by omega); (try have hk1_g1 : g1 < w1.heap.size + 1 := by omega); (try have hg1_g2 : g2 < w1.heap.size := by omega); (try have hi1_g2 : g2 ≠ w1.heap.size := by omega); (try have hj1_g2 : w1.heap.size ≠ g2 := by omega); (try have hk1_g2 : g2 < w1.heap.size + 1 := by omega))
  all_goals go_returns
  all_goals exact ⟨ret_bool (by first | rfl | (simp; omega)), by (repeat' (first | (with_reducible exact Below.refl _ _) | (with_reducible assumption) | (with_reducible refine Below.drew ?_) | (with_reducible refine belowDrewN ?_ _) | (with_reducible refine Below.alloc ?_ ?_ _) | (with_reducible refine Below.setCell ?_ ?_ _) | (with_reducible refine belowStep (by assumption) ?_ ?_) | (with_reducible exact Below.size (by assumption)) | go_size))⟩
set_option maxHeartbeats 400000 in
theorem net3 (n d k : Int) (w : World) (n1 : 0 ≤ n) (n2 : n ≤ 1000000000) (_ : 1 ≤ d) (_ : d ≤ 1000000000) (h1 : d ≤ 12) (h2 : 4 * n < d) (HI : Hid (∀ w, Calls Try.prog 129 #[.agg #[.int .i64 n, .int .i64 d]] w (Ret (.bool true) w))) : Calls Try.prog 155 #[.agg #[.int .i64 n, .int .i64 d], .int .i64 k] w (Ret (.bool false) w) := by
  go_enter Try.func155, Try.ntmps155
  go_wp2_with (go_at_call 129; refine (HI.out _).mono ?_; rintro e w1 ⟨rfl, hb1⟩; obtain ⟨hc1, hf1⟩ := bcellB hb1; have hz1 := hb1.size; (try simp only [World.size_alloc] at hc1 hf1 hz1); (try have hy1_r_0 : wr.heap.size < w1.heap.size := by omega); (try have hn1_r_0 : wr.heap.size ≠ w1.heap.size := by omega); (try have hm1_r_0 : w1.heap.size ≠ wr.heap.size := by omega); (try have hy1_r_1 : wr.heap.size + 1 < w1.heap.size := by omega); (try have hn1_r_1 : wr.heap.size + 1 ≠ w1.heap.size := by omega); (try have hm1_r_1 : w1.heap.size ≠ wr.heap.size + 1 := by omega); (try have hy1_r_2 : wr.heap.size + 1 + 1 < w1.heap.size := by omega); (try have hp1_r_1 : wr.heap.size < w1.heap.size + 1 := by omega); (try have hp1_r_2 : wr.heap.size < w1.heap.size + 1 + 1 := by omega); (try have hy1_0_0 : w.heap.size < w1.heap.size := by omega); (try have hn1_0_0 : w.heap.size ≠ w1.heap.size := by omega); (try have hm1_0_0 : w1.heap.size ≠ w.heap.size := by omega); (try have hy1_0_1 : w.heap.size + 1 < w1.heap.size := by omega); (try have hn1_0_1 : w.heap.size + 1 ≠ w1.heap.size := by omega); (try have hm1_0_1 : w1.heap.size ≠ w.heap.size + 1 := by omega); (try have hy1_0_2 : w.heap.size + 1 + 1 < w1.heap.size := by omega); (try have hp1_0_1 : w.heap.size < w1.heap.size + 1 := by omega); (try have hp1_0_2 : w.heap.size < w1.heap.size + 1 + 1 := by omega); (try have hg1_g1 : g1 < w1.heap.size := by omega); (try have hi1_g1 : g1 ≠ w1.heap.size := by omega); (try have hj1_g1 : w1.heap.size ≠ g1 := by omega); (try have hk1_g1 : g1 < w1.heap.size + 1 := by omega); (try have hg1_g2 : g2 < w1.heap.size := by omega); (try have hi1_g2 : g2 ≠ w1.heap.size := by omega); (try have hj1_g2 : w1.heap.size ≠ g2 := by omega); (try have hk1_g2 : g2 < w1.heap.size + 1 := by omega))
  all_goals go_returns
  all_goals exact ⟨ret_bool (by first | rfl | (simp; omega)), by (repeat' (first | (with_reducible exact Below.refl _ _) | (with_reducible assumption) | (with_reducible refine Below.drew ?_) | (with_reducible refine belowDrewN ?_ _) | (with_reducible refine Below.alloc ?_ ?_ _) | (with_reducible refine Below.setCell ?_ ?_ _) | (with_reducible refine belowStep (by assumption) ?_ ?_) | (with_reducible exact Below.size (by assumption)) | go_size))⟩
set_option maxHeartbeats 400000 in
theorem net4 (n d k : Int) (w : World) (n1 : 0 ≤ n) (n2 : n ≤ 1000000000) (_ : 1 ≤ d) (_ : d ≤ 1000000000) (h1 : d ≤ 12) (h2 : ¬ 4 * n < d) (h3 : d < n) (HI : Hid (∀ w, Calls Try.prog 129 #[.agg #[.int .i64 n, .int .i64 d]] w (Ret (.bool true) w))) : Calls Try.prog 155 #[.agg #[.int .i64 n, .int .i64 d], .int .i64 k] w (Ret (.bool false) w) := by
  go_enter Try.func155, Try.ntmps155
  go_wp2_with (go_at_call 129; refine (HI.out _).mono ?_; rintro e w1 ⟨rfl, hb1⟩; obtain ⟨hc1, hf1⟩ := bcellB hb1; have hz1 := hb1.size; (try simp only [World.size_alloc] at hc1 hf1 hz1); (try have hy1_r_0 : wr.heap.size < w1.heap.size := by omega); (try have hn1_r_0 : wr.heap.size ≠ w1.heap.size := by omega); (try have hm1_r_0 : w1.heap.size ≠ wr.heap.size := by omega); (try have hy1_r_1 : wr.heap.size + 1 < w1.heap.size := by omega); (try have hn1_r_1 : wr.heap.size + 1 ≠ w1.heap.size := by omega); (try have hm1_r_1 : w1.heap.size ≠ wr.heap.size + 1 := by omega); (try have hy1_r_2 : wr.heap.size + 1 + 1 < w1.heap.size := by omega); (try have hp1_r_1 : wr.heap.size < w1.heap.size + 1 := by omega); (try have hp1_r_2 : wr.heap.size < w1.heap.size + 1 + 1 := by omega); (try have hy1_0_0 : w.heap.size < w1.heap.size := by omega); (try have hn1_0_0 : w.heap.size ≠ w1.heap.size := by omega); (try have hm1_0_0 : w1.heap.size ≠ w.heap.size := by omega); (try have hy1_0_1 : w.heap.size + 1 < w1.heap.size := by omega); (try have hn1_0_1 : w.heap.size + 1 ≠ w1.heap.size := by omega); (try have hm1_0_1 : w1.heap.size ≠ w.heap.size + 1 := by omega); (try have hy1_0_2 : w.heap.size + 1 + 1 < w1.heap.size := by omega); (try have hp1_0_1 : w.heap.size < w1.heap.size + 1 := by omega); (try have hp1_0_2 : w.heap.size < w1.heap.size + 1 + 1 := by omega); (try have hg1_g1 : g1 < w1.heap.size := by omega); (try have hi1_g1 : g1 ≠ w1.heap.size := by omega); (try have hj1_g1 : w1.heap.size ≠ g1 := by omega); (try have hk1_g1 : g1 < w1.heap.size + 1 := by omega); (try have hg1_g2 : g2 < w1.heap.size := by omega); (try have hi1_g2 : g2 ≠ w1.heap.size := by omega); (try have hj1_g2 : w1.heap.size ≠ g2 := by omega); (try have hk1_g2 : g2 < w1.heap.size + 1 := by omega))
  all_goals go_returns
  all_goals exact ⟨ret_bool (by first | rfl | (simp; omega)), by (repeat' (first | (with_reducible exact Below.refl _ _) | (with_reducible assumption) | (with_reducible refine Below.drew ?_) | (with_reducible refine belowDrewN ?_ _) | (with_reducible refine Below.alloc ?_ ?_ _) | (with_reducible refine Below.setCell ?_ ?_ _) | (with_reducible refine belowStep (by assumption) ?_ ?_) | (with_reducible exact Below.size (by assumption)) | go_size))⟩
set_option maxHeartbeats 400000 in
theorem net5 (n d k : Int) (w : World) (n1 : 0 ≤ n) (n2 : n ≤ 1000000000) (d1 : 1 ≤ d) (d2 : d ≤ 1000000000) (h1 : d ≤ 12) (h2 : ¬ 4 * n < d) (h3 : ¬ d < n) (HL : Hid (∀ w, Calls Try.prog 103 #[.int .i64 k, .int .i64 1, .int .i64 3] w (RetQ (.bool true) w))) (HI : Hid (∀ w, Calls Try.prog 129 #[.agg #[.int .i64 n, .int .i64 d]] w (Ret (.bool true) w))) : Calls Try.prog 155 #[.agg #[.int .i64 n, .int .i64 d], .int .i64 k] w (Ret (.bool true) w) := by
  go_enter Try.func155, Try.ntmps155
  go_wp2_with (first | (go_at_call 129; refine (HI.out _).mono ?_; rintro e w1 ⟨rfl, hb1⟩; obtain ⟨hc1, hf1⟩ := bcellB hb1; have hz1 := hb1.size; (try simp only [World.size_alloc] at hc1 hf1 hz1); (try have hy1_r_0 : wr.heap.size < w1.heap.size := by omega); (try have hn1_r_0 : wr.heap.size ≠ w1.heap.size := by omega); (try have hm1_r_0 : w1.heap.size ≠ wr.heap.size := by omega); (try have hy1_r_1 : wr.heap.size + 1 < w1.heap.size := by omega); (try have hn1_r_1 : wr.heap.size + 1 ≠ w1.heap.size := by omega); (try have hm1_r_1 : w1.heap.size ≠ wr.heap.size + 1 := by omega); (try have hy1_r_2 : wr.heap.size + 1 + 1 < w1.heap.size := by omega); (try have hp1_r_1 : wr.heap.size < w1.heap.size + 1 := by omega); (try have hp1_r_2 : wr.heap.size < w1.heap.size + 1 + 1 := by omega); (try have hy1_0_0 : w.heap.size < w1.heap.size := by omega); (try have hn1_0_0 : w.heap.size ≠ w1.heap.size := by omega); (try have hm1_0_0 : w1.heap.size ≠ w.heap.size := by omega); (try have hy1_0_1 : w.heap.size + 1 < w1.heap.size := by omega); (try have hn1_0_1 : w.heap.size + 1 ≠ w1.heap.size := by omega); (try have hm1_0_1 : w1.heap.size ≠ w.heap.size + 1 := by omega); (try have hy1_0_2 : w.heap.size + 1 + 1 < w1.heap.size := by omega); (try have hp1_0_1 : w.heap.size < w1.heap.size + 1 := by omega); (try have hp1_0_2 : w.heap.size < w1.heap.size + 1 + 1 := by omega); (try have hg1_g1 : g1 < w1.heap.size := by omega); (try have hi1_g1 : g1 ≠ w1.heap.size := by omega); (try have hj1_g1 : w1.heap.size ≠ g1 := by omega); (try have hk1_g1 : g1 < w1.heap.size + 1 := by omega); (try have hg1_g2 : g2 < w1.heap.size := by omega); (try have hi1_g2 : g2 ≠ w1.heap.size := by omega); (try have hj1_g2 : w1.heap.size ≠ g2 := by omega); (try have hk1_g2 : g2 < w1.heap.size + 1 := by omega)) | (go_at_call 103; refine (HL.out _).mono ?_; rintro e w1 ⟨rfl, k1, rfl⟩))
  all_goals go_returns
  all_goals exact ⟨ret_bool (by first | rfl | (simp; omega)), by (repeat' (first | (with_reducible exact Below.refl _ _) | (with_reducible assumption) | (with_reducible refine Below.drew ?_) | (with_reducible refine belowDrewN ?_ _) | (with_reducible refine Below.alloc ?_ ?_ _) | (with_reducible refine Below.setCell ?_ ?_ _) | (with_reducible refine belowStep (by assumption) ?_ ?_) | (with_reducible exact Below.size (by assumption)) | go_size))⟩
set_option maxHeartbeats 400000 in
theorem net6 (n d k : Int) (w : World) (n1 : 0 ≤ n) (n2 : n ≤ 1000000000) (d1 : 1 ≤ d) (d2 : d ≤ 1000000000) (h1 : d ≤ 12) (h2 : ¬ 4 * n < d) (h3 : ¬ d < n) (hk : ¬ k = 4) (HL : Hid (∀ w, Calls Try.prog 103 #[.int .i64 k, .int .i64 1, .int .i64 3] w (RetQ (.bool false) w))) (HI : Hid (∀ w, Calls Try.prog 129 #[.agg #[.int .i64 n, .int .i64 d]] w (Ret (.bool true) w))) : Calls Try.prog 155 #[.agg #[.int .i64 n, .int .i64 d], .int .i64 k] w (Ret (.bool false) w) := by
  go_enter Try.func155, Try.ntmps155
  go_wp2_with (first | (go_at_call 129; refine (HI.out _).mono ?_; rintro e w1 ⟨rfl, hb1⟩; obtain ⟨hc1, hf1⟩ := bcellB hb1; have hz1 := hb1.size; (try simp only [World.size_alloc] at hc1 hf1 hz1); (try have hy1_r_0 : wr.heap.size < w1.heap.size := by omega); (try have hn1_r_0 : wr.heap.size ≠ w1.heap.size := by omega); (try have hm1_r_0 : w1.heap.size ≠ wr.heap.size := by omega); (try have hy1_r_1 : wr.heap.size + 1 < w1.heap.size := by omega); (try have hn1_r_1 : wr.heap.size + 1 ≠ w1.heap.size := by omega); (try have hm1_r_1 : w1.heap.size ≠ wr.heap.size + 1 := by omega); (try have hy1_r_2 : wr.heap.size + 1 + 1 < w1.heap.size := by omega); (try have hp1_r_1 : wr.heap.size < w1.heap.size + 1 := by omega); (try have hp1_r_2 : wr.heap.size < w1.heap.size + 1 + 1 := by omega); (try have hy1_0_0 : w.heap.size < w1.heap.size := by omega); (try have hn1_0_0 : w.heap.size ≠ w1.heap.size := by omega); (try have hm1_0_0 : w1.heap.size ≠ w.heap.size := by omega); (try have hy1_0_1 : w.heap.size + 1 < w1.heap.size := by omega); (try have hn1_0_1 : w.heap.size + 1 ≠ w1.heap.size := by omega); (try have hm1_0_1 : w1.heap.size ≠ w.heap.size + 1 := by omega); (try have hy1_0_2 : w.heap.size + 1 + 1 < w1.heap.size := by omega); (try have hp1_0_1 : w.heap.size < w1.heap.size + 1 := by omega); (try have hp1_0_2 : w.heap.size < w1.heap.size + 1 + 1 := by omega); (try have hg1_g1 : g1 < w1.heap.size := by omega); (try have hi1_g1 : g1 ≠ w1.heap.size := by omega); (try have hj1_g1 : w1.heap.size ≠ g1 := by omega); (try have hk1_g1 : g1 < w1.heap.size + 1 := by omega); (try have hg1_g2 : g2 < w1.heap.size := by omega); (try have hi1_g2 : g2 ≠ w1.heap.size := by omega); (try have hj1_g2 : w1.heap.size ≠ g2 := by omega); (try have hk1_g2 : g2 < w1.heap.size + 1 := by omega)) | (go_at_call 103; refine (HL.out _).mono ?_; rintro e w1 ⟨rfl, k1, rfl⟩))
  all_goals go_returns
  all_goals exact ⟨ret_bool (by first | rfl | (simp; omega)), by (repeat' (first | (with_reducible exact Below.refl _ _) | (with_reducible assumption) | (with_reducible refine Below.drew ?_) | (with_reducible refine belowDrewN ?_ _) | (with_reducible refine Below.alloc ?_ ?_ _) | (with_reducible refine Below.setCell ?_ ?_ _) | (with_reducible refine belowStep (by assumption) ?_ ?_) | (with_reducible exact Below.size (by assumption)) | go_size))⟩
set_option maxHeartbeats 400000 in
theorem net7 (n d : Int) (w : World) (n1 : 0 ≤ n) (n2 : n ≤ 1000000000) (d1 : 1 ≤ d) (d2 : d ≤ 1000000000) (h1 : d ≤ 12) (h2 : ¬ 4 * n < d) (h3 : ¬ d < n) (hnd : ¬ n = d) (HL : Hid (∀ w, Calls Try.prog 103 #[.int .i64 4, .int .i64 1, .int .i64 3] w (RetQ (.bool false) w))) (HI : Hid (∀ w, Calls Try.prog 129 #[.agg #[.int .i64 n, .int .i64 d]] w (Ret (.bool true) w))) : Calls Try.prog 155 #[.agg #[.int .i64 n, .int .i64 d], .int .i64 4] w (Ret (.bool false) w) := by
  go_enter Try.func155, Try.ntmps155
  go_wp2_with (first | (go_at_call 129; refine (HI.out _).mono ?_; rintro e w1 ⟨rfl, hb1⟩; obtain ⟨hc1, hf1⟩ := bcellB hb1; have hz1 := hb1.size; (try simp only [World.size_alloc] at hc1 hf1 hz1); (try have hy1_r_0 : wr.heap.size < w1.heap.size := by omega); (try have hn1_r_0 : wr.heap.size ≠ w1.heap.size := by omega); (try have hm1_r_0 : w1.heap.size ≠ wr.heap.size := by omega); (try have hy1_r_1 : wr.heap.size + 1 < w1.heap.size := by omega); (try have hn1_r_1 : wr.heap.size + 1 ≠ w1.heap.size := by omega); (try have hm1_r_1 : w1.heap.size ≠ wr.heap.size + 1 := by omega); (try have hy1_r_2 : wr.heap.size + 1 + 1 < w1.heap.size := by omega); (try have hp1_r_1 : wr.heap.size < w1.heap.size + 1 := by omega); (try have hp1_r_2 : wr.heap.size < w1.heap.size + 1 + 1 := by omega); (try have hy1_0_0 : w.heap.size < w1.heap.size := by omega); (try have hn1_0_0 : w.heap.size ≠ w1.heap.size := by omega); (try have hm1_0_0 : w1.heap.size ≠ w.heap.size := by omega); (try have hy1_0_1 : w.heap.size + 1 < w1.heap.size := by omega); (try have hn1_0_1 : w.heap.size + 1 ≠ w1.heap.size := by omega); (try have hm1_0_1 : w1.heap.size ≠ w.heap.size + 1 := by omega); (try have hy1_0_2 : w.heap.size + 1 + 1 < w1.heap.size := by omega); (try have hp1_0_1 : w.heap.size < w1.heap.size + 1 := by omega); (try have hp1_0_2 : w.heap.size < w1.heap.size + 1 + 1 := by omega); (try have hg1_g1 : g1 < w1.heap.size := by omega); (try have hi1_g1 : g1 ≠ w1.heap.size := by omega); (try have hj1_g1 : w1.heap.size ≠ g1 := by omega); (try have hk1_g1 : g1 < w1.heap.size + 1 := by omega); (try have hg1_g2 : g2 < w1.heap.size := by omega); (try have hi1_g2 : g2 ≠ w1.heap.size := by omega); (try have hj1_g2 : w1.heap.size ≠ g2 := by omega); (try have hk1_g2 : g2 < w1.heap.size + 1 := by omega)) | (go_at_call 103; refine (HL.out _).mono ?_; rintro e w1 ⟨rfl, k1, rfl⟩))
  all_goals go_returns
  all_goals exact ⟨ret_bool (by first | rfl | (simp; omega)), by (repeat' (first | (with_reducible exact Below.refl _ _) | (with_reducible assumption) | (with_reducible refine Below.drew ?_) | (with_reducible refine belowDrewN ?_ _) | (with_reducible refine Below.alloc ?_ ?_ _) | (with_reducible refine Below.setCell ?_ ?_ _) | (with_reducible refine belowStep (by assumption) ?_ ?_) | (with_reducible exact Below.size (by assumption)) | go_size))⟩
set_option maxHeartbeats 400000 in
theorem net8 (w : World) (HL : Hid (∀ w, Calls Try.prog 103 #[.int .i64 4, .int .i64 1, .int .i64 3] w (RetQ (.bool false) w))) (HI : Hid (∀ w, Calls Try.prog 129 #[.agg #[.int .i64 1, .int .i64 1]] w (Ret (.bool true) w))) : Calls Try.prog 155 #[.agg #[.int .i64 1, .int .i64 1], .int .i64 4] w (Ret (.bool true) w) := by
  go_enter Try.func155, Try.ntmps155
  go_wp2_with (first | (go_at_call 129; refine (HI.out _).mono ?_; rintro e w1 ⟨rfl, hb1⟩; obtain ⟨hc1, hf1⟩ := bcellB hb1; have hz1 := hb1.size; (try simp only [World.size_alloc] at hc1 hf1 hz1); (try have hy1_r_0 : wr.heap.size < w1.heap.size := by omega); (try have hn1_r_0 : wr.heap.size ≠ w1.heap.size := by omega); (try have hm1_r_0 : w1.heap.size ≠ wr.heap.size := by omega); (try have hy1_r_1 : wr.heap.size + 1 < w1.heap.size := by omega); (try have hn1_r_1 : wr.heap.size + 1 ≠ w1.heap.size := by omega); (try have hm1_r_1 : w1.heap.size ≠ wr.heap.size + 1 := by omega); (try have hy1_r_2 : wr.heap.size + 1 + 1 < w1.heap.size := by omega); (try have hp1_r_1 : wr.heap.size < w1.heap.size + 1 := by omega); (try have hp1_r_2 : wr.heap.size < w1.heap.size + 1 + 1 := by omega); (try have hy1_0_0 : w.heap.size < w1.heap.size := by omega); (try have hn1_0_0 : w.heap.size ≠ w1.heap.size := by omega); (try have hm1_0_0 : w1.heap.size ≠ w.heap.size := by omega); (try have hy1_0_1 : w.heap.size + 1 < w1.heap.size := by omega); (try have hn1_0_1 : w.heap.size + 1 ≠ w1.heap.size := by omega); (try have hm1_0_1 : w1.heap.size ≠ w.heap.size + 1 := by omega); (try have hy1_0_2 : w.heap.size + 1 + 1 < w1.heap.size := by omega); (try have hp1_0_1 : w.heap.size < w1.heap.size + 1 := by omega); (try have hp1_0_2 : w.heap.size < w1.heap.size + 1 + 1 := by omega); (try have hg1_g1 : g1 < w1.heap.size := by omega); (try have hi1_g1 : g1 ≠ w1.heap.size := by omega); (try have hj1_g1 : w1.heap.size ≠ g1 := by omega); (try have hk1_g1 : g1 < w1.heap.size + 1 := by omega); (try have hg1_g2 : g2 < w1.heap.size := by omega); (try have hi1_g2 : g2 ≠ w1.heap.size := by omega); (try have hj1_g2 : w1.heap.size ≠ g2 := by omega); (try have hk1_g2 : g2 < w1.heap.size + 1 := by omega)) | (go_at_call 103; refine (HL.out _).mono ?_; rintro e w1 ⟨rfl, k1, rfl⟩))
  all_goals go_returns
  all_goals exact ⟨ret_bool (by first | rfl | (simp; omega)), by (repeat' (first | (with_reducible exact Below.refl _ _) | (with_reducible assumption) | (with_reducible refine Below.drew ?_) | (with_reducible refine belowDrewN ?_ _) | (with_reducible refine Below.alloc ?_ ?_ _) | (with_reducible refine Below.setCell ?_ ?_ _) | (with_reducible refine belowStep (by assumption) ?_ ?_) | (with_reducible exact Below.size (by assumption)) | go_size))⟩
theorem neTask_any (n d k : Int) (w : World) : Calls Try.prog 155 #[.agg #[.int .i64 n, .int .i64 d], .int .i64 k] w (Ret (.bool (nearB n d k)) w) := by
  have HI := Lib.hid fun (w : World) => unGood_any n d w
  cases hg : goodB n d with
  | false =>
    rw [hg] at HI
    rw [near_bad (nrB_bad hg)]
    exact net1 n d k w HI
  | true =>
    rw [hg] at HI
    obtain ⟨n1, n2, d1, d2⟩ := good_bounds hg
    have hno : nrB n d = false → nearB n d k = false := near_bad
    by_cases h1 : d ≤ 12
    · by_cases h2 : 4 * n < d
      · rw [hno (by rw [nrB_good hg]; simp; omega)]
        exact net3 n d k w n1 n2 d1 d2 h1 h2 HI
      · by_cases h3 : d < n
        · rw [hno (by rw [nrB_good hg]; simp; omega)]
          exact net4 n d k w n1 n2 d1 d2 h1 h2 h3 HI
        · have hb : nrB n d = true := nrB_iff.2 ⟨hg, h1, by omega, by omega⟩
          by_cases hk : 1 ≤ k ∧ k ≤ 3
          · rw [show nearB n d k = true by simp [nearB, hb, hk.1, hk.2]]
            exact net5 n d k w n1 n2 d1 d2 h1 h2 h3 (Lib.hid fun w => l1In_yes k 1 3 w hk.1 hk.2) HI
          · have HL := Lib.hid fun (w : World) => l1In_no k 1 3 w hk
            by_cases hk4 : k = 4
            · subst hk4
              by_cases hnd : n = d
              · obtain ⟨rfl, rfl⟩ := good_one hg hnd
                rw [show nearB 1 1 4 = true by decide +kernel]
                exact net8 w HL HI
              · rw [show nearB n d 4 = false by simp [nearB, hb, hnd]]
                exact net7 n d w n1 n2 d1 d2 h1 h2 h3 hnd HL HI
            · rw [show nearB n d k = false by
                cases hx : nearB n d k with
                | false => rfl
                | true =>
                  simp only [nearB, Bool.and_eq_true, Bool.or_eq_true, decide_eq_true_eq] at hx
                  omega]
              exact net6 n d k w n1 n2 d1 d2 h1 h2 h3 hk4 HL HI
    · rw [hno (by rw [nrB_good hg]; simp; omega)]
      exact net2 n d k w n1 n2 d1 d2 (by omega) HI
end Go.Proofs.Ytleookfdngnphaa


/-
  Contracts of the search for a number in a list.
-/
namespace Go.Proofs.Ytleookfdngnphaa
open Go.RowKit
def hasB : List Int → Int → Bool
  | [], _ => false
  | y :: ys, x => decide (y = x) || hasB ys x
def idxFrom : Nat → List Int → Int → Int
  | _, [], _ => -1
  | k, y :: ys, x => if y = x then (k : Int) else idxFrom (k + 1) ys x
theorem hasB_iff (xs : List Int) (x : Int) : hasB xs x = true ↔ x ∈ xs := by
  induction xs with
  | nil => simp [hasB]
  | cons y ys ih =>
    simp only [hasB, Bool.or_eq_true, decide_eq_true_eq, ih, List.mem_cons]
    exact ⟨fun h => h.imp Eq.symm id, fun h => h.imp Eq.symm id⟩
theorem idx_hit {k : Nat} {ys : List Int} {x y : Int} (h : y = x) : idxFrom k (y :: ys) x = k := by simp [idxFrom, h]
theorem idx_miss {k : Nat} {ys : List Int} {x y : Int} (h : y ≠ x) : idxFrom k (y :: ys) x = idxFrom (k + 1) ys x := by simp [idxFrom, h]
theorem idx_has (xs : List Int) (x : Int) : ∀ k : Nat, decide (0 ≤ idxFrom k xs x) = hasB xs x := by
  induction xs with
  | nil => intro k; rfl
  | cons y ys ih =>
    intro k
    by_cases h : y = x
    · rw [idx_hit h]; simp [hasB, h]
    · rw [idx_miss h, ih]; simp [hasB, h]
theorem has_hit {ys : List Int} {x y : Int} (h : y = x) : hasB (y :: ys) x = true := by simp [hasB, h]
theorem has_miss {ys : List Int} {x y : Int} (h : y ≠ x) : hasB (y :: ys) x = hasB ys x := by simp [hasB, h]

set_option maxHeartbeats 1000000 in
theorem index_any (w : World) (v : Int) (Axs : Option Addr) (cxs : Nat) (xs : List Int) (hxs : Reads w Axs xs) (lxs : xs.length ≤ 1048576) : Calls Try.prog 176 #[.slice Axs xs.length cxs, .int .i64 v] w (RetQ (.int .i64 (idxFrom 0 xs v)) w) := by
  go_enter Try.func176, Try.ntmps176
  go_wp2
  go_loopw [8] (fun v8 wr => ∃ k : Nat, k ≤ xs.length ∧ v8 = .int .i64 k ∧ idxFrom 0 xs v = idxFrom k (xs.drop k) v ∧ ∃ n, wr = w.drewN n) (fun v8 _ => xs.length - (intOf v8).toNat)
  case atStart => exact ⟨0, Nat.zero_le _, rfl, rfl, 0, rfl⟩
  case round =>
    obtain ⟨k, hk, rfl, hr, n, rfl⟩ := hrel
    have Hr := Lib.hid hr
    clear hr
    by_cases hlt : k < xs.length
    · obtain ⟨b, o, x, rfl, hb, hx, hcell⟩ := hxs.at_ hlt
      have Hx := Lib.hid hx
      clear hx
      by_cases he : x = v
      · have hee : (v == x) = true := by simp [he]
        have He := Lib.hid he
        clear he
        go_wp2
        go_ret
        exact ⟨ret_int (by rw [Hr.out, drop_at Hx.out, idx_hit He.out]), n, rfl⟩
      · have hee : (v == x) = false := by simp; omega
        have He := Lib.hid he
        clear he
        go_wp2
        go_roundw
        case rel => exact ⟨k + 1, by omega, by go_num, by rw [Hr.out, drop_at Hx.out, idx_miss He.out], n, rfl⟩
        case measure => simp [intOf]; omega
    · obtain rfl : k = xs.length := by omega
      go_wp2
      go_ret
      exact ⟨ret_int (by rw [Hr.out, drop_all]; rfl), n, rfl⟩
theorem contains_any (w : World) (v : Int) (Axs : Option Addr) (cxs : Nat) (xs : List Int) (hxs : Reads w Axs xs) (lxs : xs.length ≤ 1048576) : Calls Try.prog 128 #[.slice Axs xs.length cxs, .int .i64 v] w (RetQ (.bool (hasB xs v)) w) := by
  have Hxs := Lib.hid hxs
  clear hxs
  go_enter Try.func128, Try.ntmps128
  go_wp2_with (go_at_call 176; refine (index_any _ _ _ _ _ Hxs.out lxs).mono ?_; rintro e w1 ⟨rfl, k1, rfl⟩)
  go_ret
  exact ⟨ret_bool (idx_has xs v 0), _, rfl⟩
set_option maxHeartbeats 1000000 in
theorem l1Has_any (w : World) (v : Int) (Axs : Option Addr) (cxs : Nat) (xs : List Int) (hxs : Reads w Axs xs) (lxs : xs.length ≤ 1048576) : Calls Try.prog 133 #[.slice Axs xs.length cxs, .int .i64 v] w (RetQ (.bool (hasB xs v)) w) := by
  go_enter Try.func133, Try.ntmps133
  go_wp2
  go_loopw [9] (fun v8 wr => ∃ k : Nat, k ≤ xs.length ∧ v8 = .int .i64 k ∧ hasB xs v = hasB (xs.drop k) v ∧ ∃ n, wr = w.drewN n) (fun v8 _ => xs.length - (intOf v8).toNat)
  case atStart => exact ⟨0, Nat.zero_le _, rfl, rfl, 0, rfl⟩
  case round =>
    obtain ⟨k, hk, rfl, hr, n, rfl⟩ := hrel
    have Hr := Lib.hid hr
    clear hr
    by_cases hlt : k < xs.length
    · obtain ⟨b, o, x, rfl, hb, hx, hcell⟩ := hxs.at_ hlt
      have Hx := Lib.hid hx
      clear hx
      by_cases he : x = v
      · have hee : (x == v) = true := by simp [he]
        have He := Lib.hid he
        clear he
        go_wp2
        go_ret
        exact ⟨ret_bool (by rw [Hr.out, drop_at Hx.out, has_hit He.out]), n, rfl⟩
      · have hee : (x == v) = false := by simp; omega
        have He := Lib.hid he
        clear he
        go_wp2
        go_roundw
        case rel => exact ⟨k + 1, by omega, by go_num, by rw [Hr.out, drop_at Hx.out, has_miss He.out], n, rfl⟩
        case measure => simp [intOf]; omega
    · obtain rfl : k = xs.length := by omega
      go_wp2
      go_ret
      exact ⟨ret_bool (by rw [Hr.out, drop_all]; rfl), n, rfl⟩
end Go.Proofs.Ytleookfdngnphaa


/-
  Plain facts on putting a number into a rising list.
-/
namespace Go.Proofs.Ytleookfdngnphaa
open Go.RowKit
/-- how many numbers at the list's beginning are less -/
def pos : List Int → Int → Nat
  | [], _ => 0
  | y :: ys, v => if y < v then pos ys v + 1 else 0
def insAt (xs : List Int) (p : Nat) (v : Int) : List Int := xs.take p ++ v :: xs.drop p
/-- what a rising list becomes that gets a number, unless it is there -/
def putL (xs : List Int) (v : Int) : List Int := if xs[pos xs v]? = some v then xs else insAt xs (pos xs v) v
def Rising (xs : List Int) : Prop := xs.Pairwise (· < ·)
theorem pos_le (xs : List Int) (v : Int) : pos xs v ≤ xs.length := by
  induction xs with
  | nil => simp [pos]
  | cons y ys ih => unfold pos; split <;> simp; omega
theorem pos_below (xs : List Int) (v : Int) : ∀ (i : Nat) (x : Int), i < pos xs v → xs[i]? = some x → x < v := by
  induction xs with
  | nil => intro i x h; simp [pos] at h
  | cons y ys ih =>
    intro i x h hx
    unfold pos at h
    split at h
    · cases i with
      | zero => simp at hx; omega
      | succ i => exact ih i x (by omega) (by simpa using hx)
    · omega
theorem pos_at (xs : List Int) (v : Int) : ∀ (x : Int), xs[pos xs v]? = some x → v ≤ x := by
  induction xs with
  | nil => intro x h; simp at h
  | cons y ys ih =>
    intro x h
    unfold pos at h
    split at h
    · exact ih x (by simpa using h)
    · simp at h; omega
/-- the place is told by what lies before and behind -/
theorem pos_of {xs : List Int} {v : Int} {p : Nat} (hp : p ≤ xs.length) (h1 : ∀ (i : Nat) (x : Int), i < p → xs[i]? = some x → x < v) (h2 : ∀ (x : Int), xs[p]? = some x → v ≤ x) : pos xs v = p := by
  rcases Nat.lt_trichotomy (pos xs v) p with h | h | h
  · have hl : pos xs v < xs.length := by omega
    have a := h1 _ xs[pos xs v] h (List.getElem?_eq_getElem hl)
    have b := pos_at xs v xs[pos xs v] (List.getElem?_eq_getElem hl)
    omega
  · exact h
  · have hl : p < xs.length := by have := pos_le xs v; omega
    have a := pos_below xs v p xs[p] h (List.getElem?_eq_getElem hl)
    have b := h2 xs[p] (List.getElem?_eq_getElem hl)
    omega
theorem Rising.lt {xs : List Int} (h : Rising xs) {i j : Nat} {x y : Int} (hij : i < j) (hx : xs[i]? = some x) (hy : xs[j]? = some y) : x < y := by
  obtain ⟨hi, rfl⟩ := List.getElem?_eq_some_iff.1 hx
  obtain ⟨hj, rfl⟩ := List.getElem?_eq_some_iff.1 hy
  exact List.pairwise_iff_getElem.1 h i j hi hj hij
theorem Rising.le {xs : List Int} (h : Rising xs) {i j : Nat} {x y : Int} (hij : i ≤ j) (hx : xs[i]? = some x) (hy : xs[j]? = some y) : x ≤ y := by
  rcases Nat.lt_or_eq_of_le hij with h1 | h1
  · have := h.lt h1 hx hy; omega
  · subst h1; rw [hx] at hy; injection hy; omega
theorem found_iff {xs : List Int} (h : Rising xs) (v : Int) : xs[pos xs v]? = some v ↔ hasB xs v = true := by
  rw [hasB_iff]
  constructor
  · exact fun h => List.mem_of_getElem? h
  · intro hm
    obtain ⟨i, hi⟩ := List.getElem?_of_mem hm
    have hle : pos xs v ≤ i := by
      rcases Nat.lt_or_ge i (pos xs v) with h1 | h1
      · have := pos_below xs v i v h1 hi; omega
      · exact h1
    have hl : pos xs v < xs.length := by have := (List.getElem?_eq_some_iff.1 hi).1; omega
    have a := pos_at xs v xs[pos xs v] (List.getElem?_eq_getElem hl)
    have b := h.le hle (List.getElem?_eq_getElem hl) hi
    rw [List.getElem?_eq_getElem hl]
    congr 1
    omega
theorem ins_mem {xs : List Int} {p : Nat} {v x : Int} : x ∈ insAt xs p v ↔ x = v ∨ x ∈ xs := by
  unfold insAt
  rw [List.mem_append, List.mem_cons]
  constructor
  · rintro (h | h | h)
    · exact .inr (List.mem_of_mem_take h)
    · exact .inl h
    · exact .inr (List.mem_of_mem_drop h)
  · rintro (h | h)
    · exact .inr (.inl h)
    · rw [← List.take_append_drop p xs, List.mem_append] at h
      rcases h with h | h
      · exact .inl h
      · exact .inr (.inr h)
theorem ins_len (xs : List Int) (p : Nat) (v : Int) (hp : p ≤ xs.length) : (insAt xs p v).length = xs.length + 1 := by simp [insAt]; omega
theorem Rising.ins {xs : List Int} (h : Rising xs) {v : Int} (hv : ¬ hasB xs v = true) : Rising (insAt xs (pos xs v) v) := by
  unfold insAt Rising
  have hs := h
  unfold Rising at hs
  rw [← List.take_append_drop (pos xs v) xs, List.pairwise_append] at hs
  obtain ⟨h1, h2, h3⟩ := hs
  rw [List.pairwise_append, List.pairwise_cons]
  have hlow : ∀ x ∈ xs.take (pos xs v), x < v := fun x hx => by
    obtain ⟨i, hi⟩ := List.getElem?_of_mem hx
    rw [List.getElem?_take] at hi
    split at hi
    · rename_i hlt
      exact pos_below xs v i x hlt hi
    · cases hi
  have hhigh : ∀ x ∈ xs.drop (pos xs v), v < x := fun x hx => by
    obtain ⟨i, hi⟩ := List.getElem?_of_mem hx
    rw [List.getElem?_drop] at hi
    have hl : pos xs v < xs.length := by have := (List.getElem?_eq_some_iff.1 hi).1; omega
    have a := pos_at xs v xs[pos xs v] (List.getElem?_eq_getElem hl)
    have b := h.le (Nat.le_add_right (pos xs v) i) (List.getElem?_eq_getElem hl) hi
    have c : x ≠ v := fun e => hv ((hasB_iff xs v).2 (by rw [← e]; exact List.mem_of_getElem? hi))
    omega
  refine ⟨h1, ⟨hhigh, h2⟩, fun a ha b hb => ?_⟩
  rcases List.mem_cons.1 hb with rfl | hb
  · exact hlow a ha
  · exact h3 a ha b hb
theorem put_no {xs : List Int} (h : Rising xs) {v : Int} (hv : ¬ hasB xs v = true) : putL xs v = insAt xs (pos xs v) v := by
  rw [putL, if_neg (fun e => hv ((found_iff h v).1 e))]
theorem put_yes {xs : List Int} (h : Rising xs) {v : Int} (hv : hasB xs v = true) : putL xs v = xs := by
  rw [putL, if_pos ((found_iff h v).2 hv)]
theorem rise_rising {lo hi : Int} : ∀ {xs : List Int} {p : Option Int}, rise lo hi p xs = true → Rising xs ∧ ∀ q, p = some q → ∀ x ∈ xs, q < x
  | [], p, _ => ⟨List.Pairwise.nil, fun q _ x hx => by simp at hx⟩
  | t :: ts, p, hr => by
    unfold rise at hr
    simp only [Bool.and_eq_true, decide_eq_true_eq] at hr
    obtain ⟨ih1, ih2⟩ := rise_rising hr.2
    refine ⟨List.pairwise_cons.2 ⟨fun x hx => ih2 t rfl x hx, ih1⟩, fun q hq x hx => ?_⟩
    subst hq
    have h1 : q < t := by simpa using hr.1.2
    rcases List.mem_cons.1 hx with rfl | hx
    · exact h1
    · have := ih2 t rfl x hx; omega
theorem expB_rising {xs : List Int} (h : expB xs = true) : Rising xs := (rise_rising (expB_parts h).2.1).1
end Go.Proofs.Ytleookfdngnphaa
