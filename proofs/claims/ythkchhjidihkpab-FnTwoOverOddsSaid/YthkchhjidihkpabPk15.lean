import Derived.Test.YthkchhjidihkpabPk7
import Derived.Test.YthkchhjidihkpabPk11

/-
  Contracts of the order of fractions, of differences, and of whole numbers next to a fraction.
-/
namespace Go.Proofs.Ythkchhjidihkpab
open Go.RowKit
theorem isNaN_any (a : Int) (w : World) : Calls Try.prog 167 #[.int .i64 a] w (RetQ (.bool false) w) := by
  go_enter Try.func167, Try.ntmps167
  go_wp2
  go_ret
  exact ⟨ret_bool (by simp), 0, rfl⟩
theorem compare_any (x y : Int) (w : World) : Calls Try.prog 157 #[.int .i64 x, .int .i64 y] w (RetQ (.int .i64 (cmpI x y)) w) := by
  have hn := fun (a : Int) (w : World) => Lib.hid (isNaN_any a w)
  clear hn
  by_cases h1 : x < y
  · have H := Lib.hid (cmpI_lt h1)
    go_enter Try.func157, Try.ntmps157
    go_wp2_with (go_at_call 167; refine (isNaN_any _ _).mono ?_; rintro e w1 ⟨rfl, k1, rfl⟩)
    go_ret
    exact ⟨ret_int H.out.symm, _, rfl⟩
  · by_cases h2 : y < x
    · have H := Lib.hid (cmpI_gt h2)
      go_enter Try.func157, Try.ntmps157
      go_wp2_with (go_at_call 167; refine (isNaN_any _ _).mono ?_; rintro e w1 ⟨rfl, k1, rfl⟩)
      go_ret
      exact ⟨ret_int H.out.symm, _, rfl⟩
    · have H := Lib.hid (cmpI_eq (x := x) (y := y) (by omega))
      go_enter Try.func157, Try.ntmps157
      go_wp2_with (go_at_call 167; refine (isNaN_any _ _).mono ?_; rintro e w1 ⟨rfl, k1, rfl⟩)
      go_ret
      exact ⟨ret_int H.out.symm, _, rfl⟩
theorem cmp_yes (n d m e : Int) (w : World) (ha : goodB n d = true) (hb : goodB m e = true) :
    Calls Try.prog 139 #[.agg #[.int .i64 n, .int .i64 d], .agg #[.int .i64 m, .int .i64 e]] w (Ret (.tuple #[.int .i64 (cmpI (n * e) (m * d)), .bool true]) w) := by
  obtain ⟨n1, n2, d1, d2⟩ := good_bounds ha
  obtain ⟨m1, m2, e1, e2⟩ := good_bounds hb
  have p1 := mul_bounds n1 n2 (by omega : 0 ≤ e) e2
  have p2 := mul_bounds m1 m2 (by omega : 0 ≤ d) d2
  have p3 := mul_bounds (by omega : 0 ≤ d) d2 (by omega : 0 ≤ e) e2
  have p4 := mul_pos1 d1 e1
  go_enter Try.func139, Try.ntmps139
  go_wp2_with (first | (go_at_call 91; refine (isFraction_any _ _ _ (by omega) (by omega) (by omega) (by omega)).mono ?_; rintro e w1 ⟨rfl, hb1⟩; obtain ⟨hc1, hf1⟩ := bcellB hb1; have hz1 := hb1.size; (try simp only [World.size_alloc] at hc1 hf1 hz1); (try have hy1_r_0 : wr.heap.size < w1.heap.size := by omega); (try have hn1_r_0 : wr.heap.size ≠ w1.heap.size := by omega); (try have hm1_r_0 : w1.heap.size ≠ wr.heap.size := by omega); (try have hy1_r_1 : wr.heap.size + 1 < w1.heap.size := by omega); (try have hn1_r_1 : wr.heap.size + 1 ≠ w1.heap.size := by omega); (try have hm1_r_1 : w1.heap.size ≠ wr.heap.size + 1 := by omega); (try have hy1_r_2 : wr.heap.size + 1 + 1 < w1.heap.size := by omega); (try have hp1_r_1 : wr.heap.size < w1.heap.size + 1 := by omega); (try have hp1_r_2 : wr.heap.size < w1.heap.size + 1 + 1 := by omega); (try have hy1_0_0 : w.heap.size < w1.heap.size := by omega); (try have hn1_0_0 : w.heap.size ≠ w1.heap.size := by omega); (try have hm1_0_0 : w1.heap.size ≠ w.heap.size := by omega); (try have hy1_0_1 : w.heap.size + 1 < w1.heap.size := by omega); (try have hn1_0_1 : w.heap.size + 1 ≠ w1.heap.size := by omega); (try have hm1_0_1 : w1.heap.size ≠ w.heap.size + 1 := by omega); (try have hy1_0_2 : w.heap.size + 1 + 1 < w1.heap.size := by omega); (try have hp1_0_1 : w.heap.size < w1.heap.size + 1 := by omega); (try have hp1_0_2 : w.heap.size < w1.heap.size + 1 + 1 := by omega); (try have hg1_g1 : g1 < w1.heap.size := by omega); (try have hi1_g1 : g1 ≠ w1.heap.size := by omega); (try have hj1_g1 : w1.heap.size ≠ g1 := by omega); (try have hk1_g1 : g1 < w1.heap.size + 1 := by omega); (try have hg1_g2 : g2 < w1.heap.size := by omega); (try have hi1_g2 : g2 ≠ w1.heap.size := by omega); (try have hj1_g2 : w1.heap.size ≠ g2 := by omega); (try have hk1_g2 : g2 < w1.heap.size + 1 := by omega)) | (go_at_call 157; refine (compare_any _ _ _).mono ?_; rintro e w2 ⟨rfl, k1, rfl⟩))
  go_ret2
  exact ⟨rfl, by (repeat' (first | (with_reducible exact Below.refl _ _) | (with_reducible assumption) | (with_reducible refine Below.drew ?_) | (with_reducible refine belowDrewN ?_ _) | (with_reducible refine Below.alloc ?_ ?_ _) | (with_reducible refine Below.setCell ?_ ?_ _) | (with_reducible refine belowStep (by assumption) ?_ ?_) | (with_reducible exact Below.size (by assumption)) | go_size))⟩
theorem cmp_no (n d m e : Int) (w : World) (rn : -9223372036854775808 ≤ n ∧ n ≤ 9223372036854775807) (rd : -9223372036854775808 ≤ d ∧ d ≤ 9223372036854775807) (rm : -9223372036854775808 ≤ m ∧ m ≤ 9223372036854775807) (re : -9223372036854775808 ≤ e ∧ e ≤ 9223372036854775807) (h : ¬ (goodB n d = true ∧ goodB m e = true)) :
    Calls Try.prog 139 #[.agg #[.int .i64 n, .int .i64 d], .agg #[.int .i64 m, .int .i64 e]] w (Ret (.tuple #[.int .i64 0, .bool false]) w) := by
  cases ha : goodB n d with
  | false =>
    clear h
    go_enter Try.func139, Try.ntmps139
    go_wp2_with (go_at_call 91; refine (isFraction_any _ _ _ (by omega) (by omega) (by omega) (by omega)).mono ?_; rintro e w1 ⟨rfl, hb1⟩; obtain ⟨hc1, hf1⟩ := bcellB hb1; have hz1 := hb1.size; (try simp only [World.size_alloc] at hc1 hf1 hz1); (try have hy1_r_0 : wr.heap.size < w1.heap.size := by omega); (try have hn1_r_0 : wr.heap.size ≠ w1.heap.size := by omega); (try have hm1_r_0 : w1.heap.size ≠ wr.heap.size := by omega); (try have hy1_r_1 : wr.heap.size + 1 < w1.heap.size := by omega); (try have hn1_r_1 : wr.heap.size + 1 ≠ w1.heap.size := by omega); (try have hm1_r_1 : w1.heap.size ≠ wr.heap.size + 1 := by omega); (try have hy1_r_2 : wr.heap.size + 1 + 1 < w1.heap.size := by omega); (try have hp1_r_1 : wr.heap.size < w1.heap.size + 1 := by omega); (try have hp1_r_2 : wr.heap.size < w1.heap.size + 1 + 1 := by omega); (try have hy1_0_0 : w.heap.size < w1.heap.size := by omega); (try have hn1_0_0 : w.heap.size ≠ w1.heap.size := by omega); (try have hm1_0_0 : w1.heap.size ≠ w.heap.size := by omega); (try have hy1_0_1 : w.heap.size + 1 < w1.heap.size := by omega); (try have hn1_0_1 : w.heap.size + 1 ≠ w1.heap.size := by omega); (try have hm1_0_1 : w1.heap.size ≠ w.heap.size + 1 := by omega); (try have hy1_0_2 : w.heap.size + 1 + 1 < w1.heap.size := by omega); (try have hp1_0_1 : w.heap.size < w1.heap.size + 1 := by omega); (try have hp1_0_2 : w.heap.size < w1.heap.size + 1 + 1 := by omega); (try have hg1_g1 : g1 < w1.heap.size := by omega); (try have hi1_g1 : g1 ≠ w1.heap.size := by omega); (try have hj1_g1 : w1.heap.size ≠ g1 := by omega); (try have hk1_g1 : g1 < w1.heap.size + 1 := by omega); (try have hg1_g2 : g2 < w1.heap.size := by omega); (try have hi1_g2 : g2 ≠ w1.heap.size := by omega); (try have hj1_g2 : w1.heap.size ≠ g2 := by omega); (try have hk1_g2 : g2 < w1.heap.size + 1 := by omega))
    go_ret2
    exact ⟨rfl, by (repeat' (first | (with_reducible exact Below.refl _ _) | (with_reducible assumption) | (with_reducible refine Below.drew ?_) | (with_reducible refine belowDrewN ?_ _) | (with_reducible refine Below.alloc ?_ ?_ _) | (with_reducible refine Below.setCell ?_ ?_ _) | (with_reducible refine belowStep (by assumption) ?_ ?_) | (with_reducible exact Below.size (by assumption)) | go_size))⟩
  | true =>
    have hb : goodB m e = false := by simpa [ha] using h
    clear h
    go_enter Try.func139, Try.ntmps139
    go_wp2_with (go_at_call 91; refine (isFraction_any _ _ _ (by omega) (by omega) (by omega) (by omega)).mono ?_; rintro e w1 ⟨rfl, hb1⟩; obtain ⟨hc1, hf1⟩ := bcellB hb1; have hz1 := hb1.size; (try simp only [World.size_alloc] at hc1 hf1 hz1); (try have hy1_r_0 : wr.heap.size < w1.heap.size := by omega); (try have hn1_r_0 : wr.heap.size ≠ w1.heap.size := by omega); (try have hm1_r_0 : w1.heap.size ≠ wr.heap.size := by omega); (try have hy1_r_1 : wr.heap.size + 1 < w1.heap.size := by omega); (try have hn1_r_1 : wr.heap.size + 1 ≠ w1.heap.size := by omega); (try have hm1_r_1 : w1.heap.size ≠ wr.heap.size + 1 := by omega); (try have hy1_r_2 : wr.heap.size + 1 + 1 < w1.heap.size := by omega); (try have hp1_r_1 : wr.heap.size < w1.heap.size + 1 := by omega); (try have hp1_r_2 : wr.heap.size < w1.heap.size + 1 + 1 := by omega); (try have hy1_0_0 : w.heap.size < w1.heap.size := by omega); (try have hn1_0_0 : w.heap.size ≠ w1.heap.size := by omega); (try have hm1_0_0 : w1.heap.size ≠ w.heap.size := by omega); (try have hy1_0_1 : w.heap.size + 1 < w1.heap.size := by omega); (try have hn1_0_1 : w.heap.size + 1 ≠ w1.heap.size := by omega); (try have hm1_0_1 : w1.heap.size ≠ w.heap.size + 1 := by omega); (try have hy1_0_2 : w.heap.size + 1 + 1 < w1.heap.size := by omega); (try have hp1_0_1 : w.heap.size < w1.heap.size + 1 := by omega); (try have hp1_0_2 : w.heap.size < w1.heap.size + 1 + 1 := by omega); (try have hg1_g1 : g1 < w1.heap.size := by omega); (try have hi1_g1 : g1 ≠ w1.heap.size := by omega); (try have hj1_g1 : w1.heap.size ≠ g1 := by omega); (try have hk1_g1 : g1 < w1.heap.size + 1 := by omega); (try have hg1_g2 : g2 < w1.heap.size := by omega); (try have hi1_g2 : g2 ≠ w1.heap.size := by omega); (try have hj1_g2 : w1.heap.size ≠ g2 := by omega); (try have hk1_g2 : g2 < w1.heap.size + 1 := by omega))
    go_ret2
    exact ⟨rfl, by (repeat' (first | (with_reducible exact Below.refl _ _) | (with_reducible assumption) | (with_reducible refine Below.drew ?_) | (with_reducible refine belowDrewN ?_ _) | (with_reducible refine Below.alloc ?_ ?_ _) | (with_reducible refine Below.setCell ?_ ?_ _) | (with_reducible refine belowStep (by assumption) ?_ ?_) | (with_reducible exact Below.size (by assumption)) | go_size))⟩
theorem unLess_yes (n d m e : Int) (w : World) (ha : goodB n d = true) (hb : goodB m e = true) (h : n * e < m * d) :
    Calls Try.prog 107 #[.agg #[.int .i64 n, .int .i64 d], .agg #[.int .i64 m, .int .i64 e]] w (Ret (.bool true) w) := by
  obtain ⟨n1, n2, d1, d2⟩ := good_bounds ha
  obtain ⟨m1, m2, e1, e2⟩ := good_bounds hb
  have p1 := mul_bounds n1 n2 (by omega : 0 ≤ e) e2
  have p2 := mul_bounds m1 m2 (by omega : 0 ≤ d) d2
  have p3 := mul_bounds (by omega : 0 ≤ d) d2 (by omega : 0 ≤ e) e2
  have p4 := mul_pos1 d1 e1
  go_enter Try.func107, Try.ntmps107
  go_wp2
  go_ret
  exact ⟨ret_bool (by first | (simp; done) | (simp; omega)), by (repeat' (first | (with_reducible exact Below.refl _ _) | (with_reducible assumption) | (with_reducible refine Below.drew ?_) | (with_reducible refine belowDrewN ?_ _) | (with_reducible refine Below.alloc ?_ ?_ _) | (with_reducible refine Below.setCell ?_ ?_ _) | (with_reducible refine belowStep (by assumption) ?_ ?_) | (with_reducible exact Below.size (by assumption)) | go_size))⟩
theorem unLess_no (n d m e : Int) (w : World) (ha : goodB n d = true) (hb : goodB m e = true) (h : ¬ n * e < m * d) :
    Calls Try.prog 107 #[.agg #[.int .i64 n, .int .i64 d], .agg #[.int .i64 m, .int .i64 e]] w (Ret (.bool false) w) := by
  obtain ⟨n1, n2, d1, d2⟩ := good_bounds ha
  obtain ⟨m1, m2, e1, e2⟩ := good_bounds hb
  have p1 := mul_bounds n1 n2 (by omega : 0 ≤ e) e2
  have p2 := mul_bounds m1 m2 (by omega : 0 ≤ d) d2
  have p3 := mul_bounds (by omega : 0 ≤ d) d2 (by omega : 0 ≤ e) e2
  have p4 := mul_pos1 d1 e1
  go_enter Try.func107, Try.ntmps107
  go_wp2
  go_ret
  exact ⟨ret_bool (by first | (simp; done) | (simp; omega)), by (repeat' (first | (with_reducible exact Below.refl _ _) | (with_reducible assumption) | (with_reducible refine Below.drew ?_) | (with_reducible refine belowDrewN ?_ _) | (with_reducible refine Below.alloc ?_ ?_ _) | (with_reducible refine Below.setCell ?_ ?_ _) | (with_reducible refine belowStep (by assumption) ?_ ?_) | (with_reducible exact Below.size (by assumption)) | go_size))⟩
/- differences -/
theorem unMinus_any (n d m e : Int) (w : World) (ha : goodB n d = true) (hb : goodB m e = true) (h : m * d ≤ n * e) :
    Calls Try.prog 109 #[.agg #[.int .i64 n, .int .i64 d], .agg #[.int .i64 m, .int .i64 e]] w (Ret (.agg #[.int .i64 ((n * e - m * d) / gcdI (n * e - m * d) (d * e)), .int .i64 ((d * e) / gcdI (n * e - m * d) (d * e))]) w) := by
  obtain ⟨n1, n2, d1, d2⟩ := good_bounds ha
  obtain ⟨m1, m2, e1, e2⟩ := good_bounds hb
  have p1 := mul_bounds n1 n2 (by omega : 0 ≤ e) e2
  have p2 := mul_bounds m1 m2 (by omega : 0 ≤ d) d2
  have p3 := mul_bounds (by omega : 0 ≤ d) d2 (by omega : 0 ≤ e) e2
  have p4 := mul_pos1 d1 e1
  go_enter Try.func109, Try.ntmps109
  go_wp2_with (go_at_call 95; refine (unMake_any _ _ _ (by omega) (by omega) (by omega) (by omega)).mono ?_; rintro e w1 ⟨rfl, hb1⟩; obtain ⟨hc1, hf1⟩ := bcellB hb1; have hz1 := hb1.size; (try simp only [World.size_alloc] at hc1 hf1 hz1); (try have hy1_r_0 : wr.heap.size < w1.heap.size := by omega); (try have hn1_r_0 : wr.heap.size ≠ w1.heap.size := by omega); (try have hm1_r_0 : w1.heap.size ≠ wr.heap.size := by omega); (try have hy1_r_1 : wr.heap.size + 1 < w1.heap.size := by omega); (try have hn1_r_1 : wr.heap.size + 1 ≠ w1.heap.size := by omega); (try have hm1_r_1 : w1.heap.size ≠ wr.heap.size + 1 := by omega); (try have hy1_r_2 : wr.heap.size + 1 + 1 < w1.heap.size := by omega); (try have hp1_r_1 : wr.heap.size < w1.heap.size + 1 := by omega); (try have hp1_r_2 : wr.heap.size < w1.heap.size + 1 + 1 := by omega); (try have hy1_0_0 : w.heap.size < w1.heap.size := by omega); (try have hn1_0_0 : w.heap.size ≠ w1.heap.size := by omega); (try have hm1_0_0 : w1.heap.size ≠ w.heap.size := by omega); (try have hy1_0_1 : w.heap.size + 1 < w1.heap.size := by omega); (try have hn1_0_1 : w.heap.size + 1 ≠ w1.heap.size := by omega); (try have hm1_0_1 : w1.heap.size ≠ w.heap.size + 1 := by omega); (try have hy1_0_2 : w.heap.size + 1 + 1 < w1.heap.size := by omega); (try have hp1_0_1 : w.heap.size < w1.heap.size + 1 := by omega); (try have hp1_0_2 : w.heap.size < w1.heap.size + 1 + 1 := by omega); (try have hg1_g1 : g1 < w1.heap.size := by omega); (try have hi1_g1 : g1 ≠ w1.heap.size := by omega); (try have hj1_g1 : w1.heap.size ≠ g1 := by omega); (try have hk1_g1 : g1 < w1.heap.size + 1 := by omega); (try have hg1_g2 : g2 < w1.heap.size := by omega); (try have hi1_g2 : g2 ≠ w1.heap.size := by omega); (try have hj1_g2 : w1.heap.size ≠ g2 := by omega); (try have hk1_g2 : g2 < w1.heap.size + 1 := by omega))
  refine bodyPost_ret (by simp [results, Try.results109, go_sem, *]; try rfl) rfl ?_
  exact ⟨rfl, by (repeat' (first | (with_reducible exact Below.refl _ _) | (with_reducible assumption) | (with_reducible refine Below.drew ?_) | (with_reducible refine belowDrewN ?_ _) | (with_reducible refine Below.alloc ?_ ?_ _) | (with_reducible refine Below.setCell ?_ ?_ _) | (with_reducible refine belowStep (by assumption) ?_ ?_) | (with_reducible exact Below.size (by assumption)) | go_size))⟩
theorem cmpI_ge {x y : Int} (h : y ≤ x) : 0 ≤ cmpI x y := by unfold cmpI; split <;> (try split) <;> omega
theorem sub_yes (n d m e : Int) (w : World) (ha : goodB n d = true) (hb : goodB m e = true) (h : m * d ≤ n * e) :
    Calls Try.prog 111 #[.agg #[.int .i64 n, .int .i64 d], .agg #[.int .i64 m, .int .i64 e]] w (Ret (.tuple #[.agg #[.int .i64 (redN (n * e - m * d) (d * e)), .int .i64 (redD (n * e - m * d) (d * e))], .bool (redB (n * e - m * d) (d * e))]) w) := by
  obtain ⟨n1, n2, d1, d2⟩ := good_bounds ha
  obtain ⟨m1, m2, e1, e2⟩ := good_bounds hb
  have p1 := mul_bounds n1 n2 (by omega : 0 ≤ e) e2
  have p2 := mul_bounds m1 m2 (by omega : 0 ≤ d) d2
  have p3 := mul_bounds (by omega : 0 ≤ d) d2 (by omega : 0 ≤ e) e2
  have p4 := mul_pos1 d1 e1
  have hc := cmpI_ge h
  go_enter Try.func111, Try.ntmps111
  go_wp2_with (first | (go_at_call 139; refine (cmp_yes _ _ _ _ _ ha hb).mono ?_; rintro e w1 ⟨rfl, hb1⟩; obtain ⟨hc1, hf1⟩ := bcellB hb1; have hz1 := hb1.size; (try simp only [World.size_alloc] at hc1 hf1 hz1); (try have hy1_r_0 : wr.heap.size < w1.heap.size := by omega); (try have hn1_r_0 : wr.heap.size ≠ w1.heap.size := by omega); (try have hm1_r_0 : w1.heap.size ≠ wr.heap.size := by omega); (try have hy1_r_1 : wr.heap.size + 1 < w1.heap.size := by omega); (try have hn1_r_1 : wr.heap.size + 1 ≠ w1.heap.size := by omega); (try have hm1_r_1 : w1.heap.size ≠ wr.heap.size + 1 := by omega); (try have hy1_r_2 : wr.heap.size + 1 + 1 < w1.heap.size := by omega); (try have hp1_r_1 : wr.heap.size < w1.heap.size + 1 := by omega); (try have hp1_r_2 : wr.heap.size < w1.heap.size + 1 + 1 := by omega); (try have hy1_0_0 : w.heap.size < w1.heap.size := by omega); (try have hn1_0_0 : w.heap.size ≠ w1.heap.size := by omega); (try have hm1_0_0 : w1.heap.size ≠ w.heap.size := by omega); (try have hy1_0_1 : w.heap.size + 1 < w1.heap.size := by omega); (try have hn1_0_1 : w.heap.size + 1 ≠ w1.heap.size := by omega); (try have hm1_0_1 : w1.heap.size ≠ w.heap.size + 1 := by omega); (try have hy1_0_2 : w.heap.size + 1 + 1 < w1.heap.size := by omega); (try have hp1_0_1 : w.heap.size < w1.heap.size + 1 := by omega); (try have hp1_0_2 : w.heap.size < w1.heap.size + 1 + 1 := by omega); (try have hg1_g1 : g1 < w1.heap.size := by omega); (try have hi1_g1 : g1 ≠ w1.heap.size := by omega); (try have hj1_g1 : w1.heap.size ≠ g1 := by omega); (try have hk1_g1 : g1 < w1.heap.size + 1 := by omega); (try have hg1_g2 : g2 < w1.heap.size := by omega); (try have hi1_g2 : g2 ≠ w1.heap.size := by omega); (try have hj1_g2 : w1.heap.size ≠ g2 := by omega); (try have hk1_g2 : g2 < w1.heap.size + 1 := by omega)) | (go_at_call 80; refine (reduce_any _ _ _ (by omega) (by omega) (by omega) (by omega)).mono ?_; rintro e w1 ⟨rfl, hb1⟩; obtain ⟨hc1, hf1⟩ := bcellB hb1; have hz1 := hb1.size; (try simp only [World.size_alloc, World.size_setCell, World.size_drew, World.heap_drewN] at hc1 hf1 hz1); (try have hy1_r_0 : wr.heap.size < w1.heap.size := by omega); (try have hn1_r_0 : wr.heap.size ≠ w1.heap.size := by omega); (try have hm1_r_0 : w1.heap.size ≠ wr.heap.size := by omega); (try have hy1_r_1 : wr.heap.size + 1 < w1.heap.size := by omega); (try have hn1_r_1 : wr.heap.size + 1 ≠ w1.heap.size := by omega); (try have hm1_r_1 : w1.heap.size ≠ wr.heap.size + 1 := by omega); (try have hy1_r_2 : wr.heap.size + 1 + 1 < w1.heap.size := by omega); (try have hp1_r_1 : wr.heap.size < w1.heap.size + 1 := by omega); (try have hp1_r_2 : wr.heap.size < w1.heap.size + 1 + 1 := by omega); (try have hy1_0_0 : w.heap.size < w1.heap.size := by omega); (try have hn1_0_0 : w.heap.size ≠ w1.heap.size := by omega); (try have hm1_0_0 : w1.heap.size ≠ w.heap.size := by omega); (try have hy1_0_1 : w.heap.size + 1 < w1.heap.size := by omega); (try have hn1_0_1 : w.heap.size + 1 ≠ w1.heap.size := by omega); (try have hm1_0_1 : w1.heap.size ≠ w.heap.size + 1 := by omega); (try have hy1_0_2 : w.heap.size + 1 + 1 < w1.heap.size := by omega); (try have hp1_0_1 : w.heap.size < w1.heap.size + 1 := by omega); (try have hp1_0_2 : w.heap.size < w1.heap.size + 1 + 1 := by omega); (try have hg1_g1 : g1 < w1.heap.size := by omega); (try have hi1_g1 : g1 ≠ w1.heap.size := by omega); (try have hj1_g1 : w1.heap.size ≠ g1 := by omega); (try have hk1_g1 : g1 < w1.heap.size + 1 := by omega); (try have hg1_g2 : g2 < w1.heap.size := by omega); (try have hi1_g2 : g2 ≠ w1.heap.size := by omega); (try have hj1_g2 : w1.heap.size ≠ g2 := by omega); (try have hk1_g2 : g2 < w1.heap.size + 1 := by omega)))
  refine bodyPost_ret (by simp [results, Try.results111, go_sem, *]; try rfl) rfl ?_
  exact ⟨rfl, by (repeat' (first | (with_reducible exact Below.refl _ _) | (with_reducible assumption) | (with_reducible refine Below.drew ?_) | (with_reducible refine belowDrewN ?_ _) | (with_reducible refine Below.alloc ?_ ?_ _) | (with_reducible refine Below.setCell ?_ ?_ _) | (with_reducible refine belowStep (by assumption) ?_ ?_) | (with_reducible exact Below.size (by assumption)) | go_size))⟩
theorem sub_less (n d m e : Int) (w : World) (ha : goodB n d = true) (hb : goodB m e = true) (h : n * e < m * d) :
    Calls Try.prog 111 #[.agg #[.int .i64 n, .int .i64 d], .agg #[.int .i64 m, .int .i64 e]] w (Ret (.tuple #[.agg #[.int .i64 0, .int .i64 0], .bool false]) w) := by
  obtain ⟨n1, n2, d1, d2⟩ := good_bounds ha
  obtain ⟨m1, m2, e1, e2⟩ := good_bounds hb
  have p1 := mul_bounds n1 n2 (by omega : 0 ≤ e) e2
  have p2 := mul_bounds m1 m2 (by omega : 0 ≤ d) d2
  have p3 := mul_bounds (by omega : 0 ≤ d) d2 (by omega : 0 ≤ e) e2
  have p4 := mul_pos1 d1 e1
  have hc : cmpI (n * e) (m * d) < 0 := by rw [cmpI_lt h]; omega
  go_enter Try.func111, Try.ntmps111
  go_wp2_with (go_at_call 139; refine (cmp_yes _ _ _ _ _ ha hb).mono ?_; rintro e w1 ⟨rfl, hb1⟩; obtain ⟨hc1, hf1⟩ := bcellB hb1; have hz1 := hb1.size; (try simp only [World.size_alloc] at hc1 hf1 hz1); (try have hy1_r_0 : wr.heap.size < w1.heap.size := by omega); (try have hn1_r_0 : wr.heap.size ≠ w1.heap.size := by omega); (try have hm1_r_0 : w1.heap.size ≠ wr.heap.size := by omega); (try have hy1_r_1 : wr.heap.size + 1 < w1.heap.size := by omega); (try have hn1_r_1 : wr.heap.size + 1 ≠ w1.heap.size := by omega); (try have hm1_r_1 : w1.heap.size ≠ wr.heap.size + 1 := by omega); (try have hy1_r_2 : wr.heap.size + 1 + 1 < w1.heap.size := by omega); (try have hp1_r_1 : wr.heap.size < w1.heap.size + 1 := by omega); (try have hp1_r_2 : wr.heap.size < w1.heap.size + 1 + 1 := by omega); (try have hy1_0_0 : w.heap.size < w1.heap.size := by omega); (try have hn1_0_0 : w.heap.size ≠ w1.heap.size := by omega); (try have hm1_0_0 : w1.heap.size ≠ w.heap.size := by omega); (try have hy1_0_1 : w.heap.size + 1 < w1.heap.size := by omega); (try have hn1_0_1 : w.heap.size + 1 ≠ w1.heap.size := by omega); (try have hm1_0_1 : w1.heap.size ≠ w.heap.size + 1 := by omega); (try have hy1_0_2 : w.heap.size + 1 + 1 < w1.heap.size := by omega); (try have hp1_0_1 : w.heap.size < w1.heap.size + 1 := by omega); (try have hp1_0_2 : w.heap.size < w1.heap.size + 1 + 1 := by omega); (try have hg1_g1 : g1 < w1.heap.size := by omega); (try have hi1_g1 : g1 ≠ w1.heap.size := by omega); (try have hj1_g1 : w1.heap.size ≠ g1 := by omega); (try have hk1_g1 : g1 < w1.heap.size + 1 := by omega); (try have hg1_g2 : g2 < w1.heap.size := by omega); (try have hi1_g2 : g2 ≠ w1.heap.size := by omega); (try have hj1_g2 : w1.heap.size ≠ g2 := by omega); (try have hk1_g2 : g2 < w1.heap.size + 1 := by omega))
  refine bodyPost_ret (by simp [results, Try.results111, go_sem, *]; try rfl) rfl ?_
  exact ⟨rfl, by (repeat' (first | (with_reducible exact Below.refl _ _) | (with_reducible assumption) | (with_reducible refine Below.drew ?_) | (with_reducible refine belowDrewN ?_ _) | (with_reducible refine Below.alloc ?_ ?_ _) | (with_reducible refine Below.setCell ?_ ?_ _) | (with_reducible refine belowStep (by assumption) ?_ ?_) | (with_reducible exact Below.size (by assumption)) | go_size))⟩
theorem sub_no (n d m e : Int) (w : World) (rn : -9223372036854775808 ≤ n ∧ n ≤ 9223372036854775807) (rd : -9223372036854775808 ≤ d ∧ d ≤ 9223372036854775807) (rm : -9223372036854775808 ≤ m ∧ m ≤ 9223372036854775807) (re : -9223372036854775808 ≤ e ∧ e ≤ 9223372036854775807) (h : ¬ (goodB n d = true ∧ goodB m e = true)) :
    Calls Try.prog 111 #[.agg #[.int .i64 n, .int .i64 d], .agg #[.int .i64 m, .int .i64 e]] w (Ret (.tuple #[.agg #[.int .i64 0, .int .i64 0], .bool false]) w) := by
  go_enter Try.func111, Try.ntmps111
  go_wp2_with (go_at_call 139; refine (cmp_no _ _ _ _ _ rn rd rm re h).mono ?_; rintro e w1 ⟨rfl, hb1⟩; obtain ⟨hc1, hf1⟩ := bcellB hb1; have hz1 := hb1.size; (try simp only [World.size_alloc] at hc1 hf1 hz1); (try have hy1_r_0 : wr.heap.size < w1.heap.size := by omega); (try have hn1_r_0 : wr.heap.size ≠ w1.heap.size := by omega); (try have hm1_r_0 : w1.heap.size ≠ wr.heap.size := by omega); (try have hy1_r_1 : wr.heap.size + 1 < w1.heap.size := by omega); (try have hn1_r_1 : wr.heap.size + 1 ≠ w1.heap.size := by omega); (try have hm1_r_1 : w1.heap.size ≠ wr.heap.size + 1 := by omega); (try have hy1_r_2 : wr.heap.size + 1 + 1 < w1.heap.size := by omega); (try have hp1_r_1 : wr.heap.size < w1.heap.size + 1 := by omega); (try have hp1_r_2 : wr.heap.size < w1.heap.size + 1 + 1 := by omega); (try have hy1_0_0 : w.heap.size < w1.heap.size := by omega); (try have hn1_0_0 : w.heap.size ≠ w1.heap.size := by omega); (try have hm1_0_0 : w1.heap.size ≠ w.heap.size := by omega); (try have hy1_0_1 : w.heap.size + 1 < w1.heap.size := by omega); (try have hn1_0_1 : w.heap.size + 1 ≠ w1.heap.size := by omega); (try have hm1_0_1 : w1.heap.size ≠ w.heap.size + 1 := by omega); (try have hy1_0_2 : w.heap.size + 1 + 1 < w1.heap.size := by omega); (try have hp1_0_1 : w.heap.size < w1.heap.size + 1 := by omega); (try have hp1_0_2 : w.heap.size < w1.heap.size + 1 + 1 := by omega); (try have hg1_g1 : g1 < w1.heap.size := by omega); (try have hi1_g1 : g1 ≠ w1.heap.size := by omega); (try have hj1_g1 : w1.heap.size ≠ g1 := by omega); (try have hk1_g1 : g1 < w1.heap.size + 1 := by omega); (try have hg1_g2 : g2 < w1.heap.size := by omega); (try have hi1_g2 : g2 ≠ w1.heap.size := by omega); (try have hj1_g2 : w1.heap.size ≠ g2 := by omega); (try have hk1_g2 : g2 < w1.heap.size + 1 := by omega))
  refine bodyPost_ret (by simp [results, Try.results111, go_sem, *]; try rfl) rfl ?_
  exact ⟨rfl, by (repeat' (first | (with_reducible exact Below.refl _ _) | (with_reducible assumption) | (with_reducible refine Below.drew ?_) | (with_reducible refine belowDrewN ?_ _) | (with_reducible refine Below.alloc ?_ ?_ _) | (with_reducible refine Below.setCell ?_ ?_ _) | (with_reducible refine belowStep (by assumption) ?_ ?_) | (with_reducible exact Below.size (by assumption)) | go_size))⟩
end Go.Proofs.Ythkchhjidihkpab


/-
  The contract of the library's binary search in a rising list.
-/
namespace Go.Proofs.Ythkchhjidihkpab
open Go.RowKit
theorem isNaN2_any (a : Int) (w : World) : Calls Try.prog 151 #[.int .i64 a] w (RetQ (.bool false) w) := by
  go_enter Try.func151, Try.ntmps151
  go_wp2
  go_ret
  exact ⟨ret_bool (by simp), 0, rfl⟩
theorem less_yes (a b : Int) (w : World) (h : a < b) : Calls Try.prog 146 #[.int .i64 a, .int .i64 b] w (RetQ (.bool true) w) := by
  go_enter Try.func146, Try.ntmps146
  go_wp2_with (go_at_call 167; refine (isNaN_any _ _).mono ?_; rintro e w1 ⟨rfl, k1, rfl⟩)
  go_ret
  exact ⟨ret_bool (by first | (simp; done) | (simp; omega)), _, rfl⟩
theorem less_no (a b : Int) (w : World) (h : b ≤ a) : Calls Try.prog 146 #[.int .i64 a, .int .i64 b] w (RetQ (.bool false) w) := by
  go_enter Try.func146, Try.ntmps146
  go_wp2_with (go_at_call 167; refine (isNaN_any _ _).mono ?_; rintro e w1 ⟨rfl, k1, rfl⟩)
  go_ret
  exact ⟨ret_bool (by first | (simp; done) | (simp; omega)), _, rfl⟩

set_option maxHeartbeats 2000000 in
theorem search_any (w : World) (v : Int) (Axs : Option Addr) (cxs : Nat) (xs : List Int) (hxs : Reads w Axs xs) (lxs : xs.length ≤ 1048576) (hs : Rising xs) :
    Calls Try.prog 121 #[.slice Axs xs.length cxs, .int .i64 v] w (RetQ (.tuple #[.int .i64 (pos xs v), .bool (decide (xs[pos xs v]? = some v))]) w) := by
  have Hs := Lib.hid hs
  have Hxs := Lib.hid hxs
  clear hs hxs
  go_enter Try.func121, Try.ntmps121
  go_wp2
  go_loopw [7, 8] (fun v7 v8 wr => ∃ i j : Nat, i ≤ j ∧ j ≤ xs.length ∧ v7 = .int .i64 i ∧ v8 = .int .i64 j ∧ (∀ (k : Nat) (x : Int), k < i → xs[k]? = some x → x < v) ∧ (∀ (k : Nat) (x : Int), j ≤ k → xs[k]? = some x → v ≤ x) ∧ ∃ n, wr = w.drewN n) (fun v7 v8 _ => (intOf v8).toNat - (intOf v7).toNat)
  case atStart => exact ⟨0, xs.length, Nat.zero_le _, Nat.le_refl _, rfl, rfl, fun k x h => by omega, (fun k x h h2 => by rw [List.getElem?_eq_none h] at h2; cases h2), 0, rfl⟩
  case round =>
    obtain ⟨i, j, hij, hj, rfl, rfl, h1, h2, n, rfl⟩ := hrel
    have H1 := Lib.hid h1
    have H2 := Lib.hid h2
    clear h1 h2
    by_cases hlt : i < j
    · obtain ⟨b, o, x, rfl, hb, hx, hcell⟩ := Hxs.out.at_ (k := (i + j) / 2) (by omega)
      have Hx := Lib.hid hx
      clear hx
      by_cases hle : x < v
      · go_wp2_with (go_at_call 146; refine (less_yes _ _ _ hle).mono ?_; rintro e w1 ⟨rfl, k1, rfl⟩)
        go_roundw
        case rel => exact ⟨(i + j) / 2 + 1, j, by omega, hj, congrArg (Value.int .i64) (by omega), rfl, (fun k y h hy => by have := (Hs.out).le (show k ≤ (i + j) / 2 by omega) hy Hx.out; omega), H2.out, _, rfl⟩
        case measure => simp [intOf]; omega
      · go_wp2_with (go_at_call 146; refine (less_no _ _ _ (by omega)).mono ?_; rintro e w1 ⟨rfl, k1, rfl⟩)
        go_roundw
        case rel => exact ⟨i, (i + j) / 2, by omega, by omega, rfl, congrArg (Value.int .i64) (by omega), H1.out, (fun k y h hy => by have := (Hs.out).le h Hx.out hy; omega), _, rfl⟩
        case measure => simp [intOf]; omega
    · obtain rfl : i = j := by omega
      have Hp := Lib.hid (pos_of hj H1.out (fun x hx => H2.out i x (Nat.le_refl _) hx))
      by_cases hl : i < xs.length
      · obtain ⟨b, o, x, rfl, hb, hx, hcell⟩ := Hxs.out.at_ hl
        have Hx := Lib.hid hx
        clear hx
        by_cases he : x = v
        · have hee : (x == v) = true := by simp [he]
          have He := Lib.hid he
          clear he
          go_wp2_with (go_at_call 151; refine (isNaN2_any _ _).mono ?_; rintro e w1 ⟨rfl, k1, rfl⟩)
          go_ret2
          exact ⟨ret_ib (by rw [Hp.out]) (by rw [Hp.out, Hx.out, He.out]; simp), _, rfl⟩
        · have hee : (x == v) = false := by simp [he]
          have He := Lib.hid he
          clear he
          go_wp2_with (go_at_call 151; refine (isNaN2_any _ _).mono ?_; rintro e w1 ⟨rfl, k1, rfl⟩)
          go_ret2
          exact ⟨ret_ib (by rw [Hp.out]) (by rw [Hp.out, Hx.out]; simp [He.out]), _, rfl⟩
      · go_wp2
        go_ret2
        exact ⟨ret_ib (by rw [Hp.out]) (by rw [Hp.out, List.getElem?_eq_none (by omega)]; rfl), _, rfl⟩
end Go.Proofs.Ythkchhjidihkpab
