import Derived.Test.YtolgjokghecceaaGreatDoorPk1

/-
  Contracts of the two functions that compute greatest common divisors.
-/
namespace Go.Proofs.YtolgjokghecceaaGreatDoor
open Go.RowKit

set_option maxHeartbeats 400000 in
theorem commonDivisor_any (a b : Int) (w : World) (ha : 0 ≤ a) (hb : 0 ≤ b) (ha2 : a ≤ 9223372036854775807) (hb2 : b ≤ 9223372036854775807) :
    Calls Tryz.prog 70 #[.int .i64 a, .int .i64 b] w (RetQ (.int .i64 (gcdI a b)) w) := by
  go_enter Tryz.func70, Tryz.ntmps70
  go_wp2
  go_loopw [0, 1] (fun v0 v1 wr => ∃ x y : Int, 0 ≤ x ∧ 0 ≤ y ∧ x ≤ 9223372036854775807 ∧ y ≤ 9223372036854775807 ∧ v0 = .int .i64 x ∧ v1 = .int .i64 y ∧ gcdI x y = gcdI a b ∧ ∃ n, wr = w.drewN n) (fun _ v1 _ => (intOf v1).toNat)
  case atStart => exact ⟨a, b, ha, hb, ha2, hb2, rfl, rfl, rfl, 0, rfl⟩
  case round =>
    obtain ⟨x, y, hx, hy, hx2, hy2, rfl, rfl, hg, k, rfl⟩ := hrel
    have Hg := Lib.hid hg
    clear hg
    by_cases h0 : y = 0
    · subst h0
      go_wp2
      go_ret
      exact ⟨ret_int (by rw [← Hg.out, gcdI_zero x hx]), k, rfl⟩
    · have hne : ((y : Int) != 0) = true := by rw [bne_iff_ne]; omega
      have hy1 : 1 ≤ y := by omega
      have hr1 := Int.emod_nonneg x h0
      have hr2 := Int.emod_lt_of_pos x (b := y) (by omega)
      go_wp2
      go_region
      all_goals
        go_wp2
        go_roundw
        case rel => exact ⟨y, x % y, by omega, by omega, by omega, by omega, rfl, rfl, by rw [gcdI_step x y hx hy]; exact Hg.out, k + 1, rfl⟩
        case measure => simp [intOf]; omega

set_option maxHeartbeats 400000 in
theorem unGcd_any (a b : Int) (w : World) (ha : 0 ≤ a) (hb : 0 ≤ b) (ha2 : a ≤ 9223372036854775807) (hb2 : b ≤ 9223372036854775807) :
    Calls Tryz.prog 73 #[.int .i64 a, .int .i64 b] w (RetQ (.int .i64 (gcdI a b)) w) := by
  go_enter Tryz.func73, Tryz.ntmps73
  go_wp2
  go_loopw [0, 1] (fun v0 v1 wr => ∃ x y : Int, 0 ≤ x ∧ 0 ≤ y ∧ x ≤ 9223372036854775807 ∧ y ≤ 9223372036854775807 ∧ v0 = .int .i64 x ∧ v1 = .int .i64 y ∧ gcdI x y = gcdI a b ∧ ∃ n, wr = w.drewN n) (fun _ v1 _ => (intOf v1).toNat)
  case atStart => exact ⟨a, b, ha, hb, ha2, hb2, rfl, rfl, rfl, 0, rfl⟩
  case round =>
    obtain ⟨x, y, hx, hy, hx2, hy2, rfl, rfl, hg, k, rfl⟩ := hrel
    have Hg := Lib.hid hg
    clear hg
    by_cases h0 : y = 0
    · subst h0
      go_wp2
      go_ret
      exact ⟨ret_int (by rw [← Hg.out, gcdI_zero x hx]), k, rfl⟩
    · have hy1 : 1 ≤ y := by omega
      have hr1 := Int.emod_nonneg x h0
      have hr2 := Int.emod_lt_of_pos x (b := y) (by omega)
      go_wp2
      go_region
      all_goals
        go_wp2
        go_roundw
        case rel => exact ⟨y, x % y, by omega, by omega, by omega, by omega, rfl, rfl, by rw [gcdI_step x y hx hy]; exact Hg.out, k + 1, rfl⟩
        case measure => simp [intOf]; omega
end Go.Proofs.YtolgjokghecceaaGreatDoor


/-
  The contract of the function that brings a quotient into lowest terms.
-/
namespace Go.Proofs.YtolgjokghecceaaGreatDoor
open Go.RowKit

set_option maxHeartbeats 400000 in
theorem reduce_any (n d : Int) (w : World) (hn : 0 ≤ n) (hd : 1 ≤ d) (hn2 : n ≤ 9223372036854775807) (hd2 : d ≤ 9223372036854775807) :
    Calls Tryz.prog 45 #[.int .i64 n, .int .i64 d] w (Ret (.tuple #[.agg #[.int .i64 (redN n d), .int .i64 (redD n d)], .bool (redB n d)]) w) := by
  have hg1 : 1 ≤ gcdI n d := by have := gcdI_pos n d (by omega); omega
  have hg2 : gcdI n d ≤ 9223372036854775807 := by have := gcdI_leR n d (by omega); omega
  have hq1 : 0 ≤ n / gcdI n d := Int.ediv_nonneg hn (by omega)
  have hq2 : 0 ≤ d / gcdI n d := Int.ediv_nonneg (by omega) (by omega)
  by_cases h1 : n / gcdI n d ≤ 1000000000
  · by_cases h2 : d / gcdI n d ≤ 1000000000
    · have HB := Lib.hid (redB_yes h1 h2)
      go_enter Tryz.func45, Tryz.ntmps45
      go_wp2_with (go_at_call 70; refine (commonDivisor_any _ _ _ hn (by omega) hn2 hd2).mono ?_; rintro e w1 ⟨rfl, k1, rfl⟩)
      go_region
      all_goals
        go_wp2
        go_returns
        exact ⟨ret_fr (by rw [redN, if_pos HB.out]) (by rw [redD, if_pos HB.out]) HB.out.symm, by (repeat' (first | (with_reducible exact Below.refl _ _) | (with_reducible assumption) | (with_reducible refine Below.drew ?_) | (with_reducible refine belowDrewN ?_ _) | (with_reducible refine Below.alloc ?_ ?_ _) | (with_reducible refine Below.setCell ?_ ?_ _) | (with_reducible refine belowStep (by assumption) ?_ ?_) | (with_reducible exact Below.size (by assumption)) | go_size))⟩
    · have HB := Lib.hid (redB_no2 (n := n) h2)
      go_enter Tryz.func45, Tryz.ntmps45
      go_wp2_with (go_at_call 70; refine (commonDivisor_any _ _ _ hn (by omega) hn2 hd2).mono ?_; rintro e w1 ⟨rfl, k1, rfl⟩)
      go_region
      all_goals
        go_wp2
        go_returns
        exact ⟨ret_fr (by rw [redN, HB.out]; rfl) (by rw [redD, HB.out]; rfl) HB.out.symm, by (repeat' (first | (with_reducible exact Below.refl _ _) | (with_reducible assumption) | (with_reducible refine Below.drew ?_) | (with_reducible refine belowDrewN ?_ _) | (with_reducible refine Below.alloc ?_ ?_ _) | (with_reducible refine Below.setCell ?_ ?_ _) | (with_reducible refine belowStep (by assumption) ?_ ?_) | (with_reducible exact Below.size (by assumption)) | go_size))⟩
  · have HB := Lib.hid (redB_no1 (d := d) h1)
    go_enter Tryz.func45, Tryz.ntmps45
    go_wp2_with (go_at_call 70; refine (commonDivisor_any _ _ _ hn (by omega) hn2 hd2).mono ?_; rintro e w1 ⟨rfl, k1, rfl⟩)
    go_region
    all_goals
      go_wp2
      go_returns
      exact ⟨ret_fr (by rw [redN, HB.out]; rfl) (by rw [redD, HB.out]; rfl) HB.out.symm, by (repeat' (first | (with_reducible exact Below.refl _ _) | (with_reducible assumption) | (with_reducible refine Below.drew ?_) | (with_reducible refine belowDrewN ?_ _) | (with_reducible refine Below.alloc ?_ ?_ _) | (with_reducible refine Below.setCell ?_ ?_ _) | (with_reducible refine belowStep (by assumption) ?_ ?_) | (with_reducible exact Below.size (by assumption)) | go_size))⟩

theorem reduce_yes (n d : Int) (w : World) (hn : 0 ≤ n) (hd : 1 ≤ d) (hn2 : n ≤ 9223372036854775807) (hd2 : d ≤ 9223372036854775807) (hb : redB n d = true) :
    Calls Tryz.prog 45 #[.int .i64 n, .int .i64 d] w (Ret (.tuple #[.agg #[.int .i64 (n / gcdI n d), .int .i64 (d / gcdI n d)], .bool true]) w) := by
  have h := reduce_any n d w hn hd hn2 hd2
  rw [redN, redD, hb] at h
  exact h

theorem reduce_no (n d : Int) (w : World) (hn : 0 ≤ n) (hd : 1 ≤ d) (hn2 : n ≤ 9223372036854775807) (hd2 : d ≤ 9223372036854775807) (hb : redB n d = false) :
    Calls Tryz.prog 45 #[.int .i64 n, .int .i64 d] w (Ret (.tuple #[.agg #[.int .i64 0, .int .i64 0], .bool false]) w) := by
  have h := reduce_any n d w hn hd hn2 hd2
  rw [redN, redD, hb] at h
  exact h
end Go.Proofs.YtolgjokghecceaaGreatDoor


/-
  Contracts of the functions that test whether a pair of numbers is a fraction.
-/
namespace Go.Proofs.YtolgjokghecceaaGreatDoor
open Go.RowKit

set_option maxHeartbeats 400000 in
theorem isFraction_any (n d : Int) (w : World) (hn1 : -9223372036854775808 ≤ n) (hn2 : n ≤ 9223372036854775807) (hd1 : -9223372036854775808 ≤ d) (hd2 : d ≤ 9223372036854775807) :
    Calls Tryz.prog 36 #[.agg #[.int .i64 n, .int .i64 d]] w (Ret (.bool (goodB n d)) w) := by
  by_cases h0 : n < 0
  · have HB := Lib.hid (goodB_not (n := n) (d := d) (by omega))
    go_enter Tryz.func36, Tryz.ntmps36
    go_wp2
    go_ret
    exact ⟨ret_bool HB.out.symm, by (repeat' (first | (with_reducible exact Below.refl _ _) | (with_reducible assumption) | (with_reducible refine Below.drew ?_) | (with_reducible refine belowDrewN ?_ _) | (with_reducible refine Below.alloc ?_ ?_ _) | (with_reducible refine Below.setCell ?_ ?_ _) | (with_reducible refine belowStep (by assumption) ?_ ?_) | (with_reducible exact Below.size (by assumption)) | go_size))⟩
  · by_cases h1 : d < 1
    · have HB := Lib.hid (goodB_not (n := n) (d := d) (by omega))
      go_enter Tryz.func36, Tryz.ntmps36
      go_wp2
      go_ret
      exact ⟨ret_bool HB.out.symm, by (repeat' (first | (with_reducible exact Below.refl _ _) | (with_reducible assumption) | (with_reducible refine Below.drew ?_) | (with_reducible refine belowDrewN ?_ _) | (with_reducible refine Below.alloc ?_ ?_ _) | (with_reducible refine Below.setCell ?_ ?_ _) | (with_reducible refine belowStep (by assumption) ?_ ?_) | (with_reducible exact Below.size (by assumption)) | go_size))⟩
    · cases hr : redB n d with
      | false =>
        have HB := Lib.hid (goodB_not (n := n) (d := d) (fun h => by
          have := red_one h.2.2.2.2
          rw [redB_yes (by omega) (by omega)] at hr; cases hr))
        have Hr := Lib.hid hr
        clear hr
        go_enter Tryz.func36, Tryz.ntmps36
        go_wp2_with (go_at_call 45; refine (reduce_no _ _ _ (by omega) (by omega) hn2 hd2 Hr.out).mono ?_; rintro e w1 ⟨rfl, hb1⟩; obtain ⟨hc1, hf1⟩ := bcellB hb1; have hz1 := hb1.size; (try simp only [World.size_alloc, World.size_setCell, World.size_drew, World.heap_drewN] at hc1 hf1 hz1); (try have hy1_r_0 : wr.heap.size < w1.heap.size := by omega); (try have hn1_r_0 : wr.heap.size ≠ w1.heap.size := by omega); (try have hm1_r_0 : w1.heap.size ≠ wr.heap.size := by omega); (try have hy1_r_1 : wr.heap.size + 1 < w1.heap.size := by omega); (try have hn1_r_1 : wr.heap.size + 1 ≠ w1.heap.size := by omega); (try have hm1_r_1 : w1.heap.size ≠ wr.heap.size + 1 := by omega); (try have hy1_r_2 : wr.heap.size + 1 + 1 < w1.heap.size := by omega); (try have hp1_r_1 : wr.heap.size < w1.heap.size + 1 := by omega); (try have hp1_r_2 : wr.heap.size < w1.heap.size + 1 + 1 := by omega); (try have hy1_0_0 : w.heap.size < w1.heap.size := by omega); (try have hn1_0_0 : w.heap.size ≠ w1.heap.size := by omega); (try have hm1_0_0 : w1.heap.size ≠ w.heap.size := by omega); (try have hy1_0_1 : w.heap.size + 1 < w1.heap.size := by omega); (try have hn1_0_1 : w.heap.size + 1 ≠ w1.heap.size := by omega); (try have hm1_0_1 : w1.heap.size ≠ w.heap.size + 1 := by omega); (try have hy1_0_2 : w.heap.size + 1 + 1 < w1.heap.size := by omega); (try have hp1_0_1 : w.heap.size < w1.heap.size + 1 := by omega); (try have hp1_0_2 : w.heap.size < w1.heap.size + 1 + 1 := by omega); (try have hg1_g1 : g1 < w1.heap.size := by omega); (try have hi1_g1 : g1 ≠ w1.heap.size := by omega); (try have hj1_g1 : w1.heap.size ≠ g1 := by omega); (try have hk1_g1 : g1 < w1.heap.size + 1 := by omega); (try have hg1_g2 : g2 < w1.heap.size := by omega); (try have hi1_g2 : g2 ≠ w1.heap.size := by omega); (try have hj1_g2 : w1.heap.size ≠ g2 := by omega); (try have hk1_g2 : g2 < w1.heap.size + 1 := by omega))
        go_ret
        exact ⟨ret_bool HB.out.symm, by (repeat' (first | (with_reducible exact Below.refl _ _) | (with_reducible assumption) | (with_reducible refine Below.drew ?_) | (with_reducible refine belowDrewN ?_ _) | (with_reducible refine Below.alloc ?_ ?_ _) | (with_reducible refine Below.setCell ?_ ?_ _) | (with_reducible refine belowStep (by assumption) ?_ ?_) | (with_reducible exact Below.size (by assumption)) | go_size))⟩
      | true =>
        have Hr := Lib.hid hr
        clear hr
        go_enter Tryz.func36, Tryz.ntmps36
        go_wp2_with (go_at_call 45; refine (reduce_yes _ _ _ (by omega) (by omega) hn2 hd2 Hr.out).mono ?_; rintro e w1 ⟨rfl, hb1⟩; obtain ⟨hc1, hf1⟩ := bcellB hb1; have hz1 := hb1.size; (try simp only [World.size_alloc, World.size_setCell, World.size_drew, World.heap_drewN] at hc1 hf1 hz1); (try have hy1_r_0 : wr.heap.size < w1.heap.size := by omega); (try have hn1_r_0 : wr.heap.size ≠ w1.heap.size := by omega); (try have hm1_r_0 : w1.heap.size ≠ wr.heap.size := by omega); (try have hy1_r_1 : wr.heap.size + 1 < w1.heap.size := by omega); (try have hn1_r_1 : wr.heap.size + 1 ≠ w1.heap.size := by omega); (try have hm1_r_1 : w1.heap.size ≠ wr.heap.size + 1 := by omega); (try have hy1_r_2 : wr.heap.size + 1 + 1 < w1.heap.size := by omega); (try have hp1_r_1 : wr.heap.size < w1.heap.size + 1 := by omega); (try have hp1_r_2 : wr.heap.size < w1.heap.size + 1 + 1 := by omega); (try have hy1_0_0 : w.heap.size < w1.heap.size := by omega); (try have hn1_0_0 : w.heap.size ≠ w1.heap.size := by omega); (try have hm1_0_0 : w1.heap.size ≠ w.heap.size := by omega); (try have hy1_0_1 : w.heap.size + 1 < w1.heap.size := by omega); (try have hn1_0_1 : w.heap.size + 1 ≠ w1.heap.size := by omega); (try have hm1_0_1 : w1.heap.size ≠ w.heap.size + 1 := by omega); (try have hy1_0_2 : w.heap.size + 1 + 1 < w1.heap.size := by omega); (try have hp1_0_1 : w.heap.size < w1.heap.size + 1 := by omega); (try have hp1_0_2 : w.heap.size < w1.heap.size + 1 + 1 := by omega); (try have hg1_g1 : g1 < w1.heap.size := by omega); (try have hi1_g1 : g1 ≠ w1.heap.size := by omega); (try have hj1_g1 : w1.heap.size ≠ g1 := by omega); (try have hk1_g1 : g1 < w1.heap.size + 1 := by omega); (try have hg1_g2 : g2 < w1.heap.size := by omega); (try have hi1_g2 : g2 ≠ w1.heap.size := by omega); (try have hj1_g2 : w1.heap.size ≠ g2 := by omega); (try have hk1_g2 : g2 < w1.heap.size + 1 := by omega))
        all_goals
          go_ret
          exact ⟨ret_bool (by rw [good_of_red (by omega) (by omega) Hr.out]; simp [*]), by (repeat' (first | (with_reducible exact Below.refl _ _) | (with_reducible assumption) | (with_reducible refine Below.drew ?_) | (with_reducible refine belowDrewN ?_ _) | (with_reducible refine Below.alloc ?_ ?_ _) | (with_reducible refine Below.setCell ?_ ?_ _) | (with_reducible refine belowStep (by assumption) ?_ ?_) | (with_reducible exact Below.size (by assumption)) | go_size))⟩

theorem l1In_yes (n lo hi : Int) (w : World) (h1 : lo ≤ n) (h2 : n ≤ hi) :
    Calls Tryz.prog 72 #[.int .i64 n, .int .i64 lo, .int .i64 hi] w (RetQ (.bool true) w) := by
  go_enter Tryz.func72, Tryz.ntmps72
  go_wp2
  go_ret
  exact ⟨rfl, 0, rfl⟩
theorem l1In_no (n lo hi : Int) (w : World) (h1 : ¬ (lo ≤ n ∧ n ≤ hi)) :
    Calls Tryz.prog 72 #[.int .i64 n, .int .i64 lo, .int .i64 hi] w (RetQ (.bool false) w) := by
  by_cases h : lo ≤ n
  · have h2 : hi < n := by omega
    clear h1
    go_enter Tryz.func72, Tryz.ntmps72
    go_wp2
    go_ret
    exact ⟨ret_bool (by simp; omega), 0, rfl⟩
  · clear h1
    go_enter Tryz.func72, Tryz.ntmps72
    go_wp2
    go_ret
    exact ⟨rfl, 0, rfl⟩

set_option maxHeartbeats 400000 in
theorem unGood_any (n d : Int) (w : World) :
    Calls Tryz.prog 51 #[.agg #[.int .i64 n, .int .i64 d]] w (Ret (.bool (goodB n d)) w) := by
  by_cases h1 : 0 ≤ n ∧ n ≤ 1000000000
  · by_cases h2 : 1 ≤ d ∧ d ≤ 1000000000
    · obtain ⟨h1, h1'⟩ := h1
      obtain ⟨h2, h2'⟩ := h2
      by_cases hg : gcdI n d = 1
      · have HB := Lib.hid ((goodB_iff n d).2 ⟨h1, h1', h2, h2', hg⟩)
        have hgb : (gcdI n d == 1) = true := by simp [hg]
        clear hg
        go_enter Tryz.func51, Tryz.ntmps51
        go_wp2_with (first | (go_at_call 72; refine (l1In_yes _ _ _ _ (by omega) (by omega)).mono ?_; rintro e w1 ⟨rfl, k1, rfl⟩) | (go_at_call 73; refine (unGcd_any _ _ _ (by omega) (by omega) (by omega) (by omega)).mono ?_; rintro e w1 ⟨rfl, k3, rfl⟩))
        go_ret
        exact ⟨ret_bool HB.out.symm, by (repeat' (first | (with_reducible exact Below.refl _ _) | (with_reducible assumption) | (with_reducible refine Below.drew ?_) | (with_reducible refine belowDrewN ?_ _) | (with_reducible refine Below.alloc ?_ ?_ _) | (with_reducible refine Below.setCell ?_ ?_ _) | (with_reducible refine belowStep (by assumption) ?_ ?_) | (with_reducible exact Below.size (by assumption)) | go_size))⟩
      · have HB := Lib.hid (goodB_not (n := n) (d := d) (fun h => hg h.2.2.2.2))
        have hgb : (gcdI n d == 1) = false := by simp [hg]
        clear hg
        go_enter Tryz.func51, Tryz.ntmps51
        go_wp2_with (first | (go_at_call 72; refine (l1In_yes _ _ _ _ (by omega) (by omega)).mono ?_; rintro e w1 ⟨rfl, k1, rfl⟩) | (go_at_call 73; refine (unGcd_any _ _ _ (by omega) (by omega) (by omega) (by omega)).mono ?_; rintro e w1 ⟨rfl, k3, rfl⟩))
        go_ret
        exact ⟨ret_bool HB.out.symm, by (repeat' (first | (with_reducible exact Below.refl _ _) | (with_reducible assumption) | (with_reducible refine Below.drew ?_) | (with_reducible refine belowDrewN ?_ _) | (with_reducible refine Below.alloc ?_ ?_ _) | (with_reducible refine Below.setCell ?_ ?_ _) | (with_reducible refine belowStep (by assumption) ?_ ?_) | (with_reducible exact Below.size (by assumption)) | go_size))⟩
    · have HB := Lib.hid (goodB_not (n := n) (d := d) (by omega))
      go_enter Tryz.func51, Tryz.ntmps51
      go_wp2_with (first | (go_at_call 72; refine (l1In_yes _ _ _ _ (by omega) (by omega)).mono ?_; rintro e w1 ⟨rfl, k1, rfl⟩) | (go_at_call 72; refine (l1In_no _ _ _ _ (by omega)).mono ?_; rintro e w1 ⟨rfl, k1, rfl⟩))
      go_ret
      exact ⟨ret_bool HB.out.symm, by (repeat' (first | (with_reducible exact Below.refl _ _) | (with_reducible assumption) | (with_reducible refine Below.drew ?_) | (with_reducible refine belowDrewN ?_ _) | (with_reducible refine Below.alloc ?_ ?_ _) | (with_reducible refine Below.setCell ?_ ?_ _) | (with_reducible refine belowStep (by assumption) ?_ ?_) | (with_reducible exact Below.size (by assumption)) | go_size))⟩
  · have HB := Lib.hid (goodB_not (n := n) (d := d) (by omega))
    go_enter Tryz.func51, Tryz.ntmps51
    go_wp2_with (go_at_call 72; refine (l1In_no _ _ _ _ (by omega)).mono ?_; rintro e w1 ⟨rfl, k1, rfl⟩)
    go_ret
    exact ⟨ret_bool HB.out.symm, by (repeat' (first | (with_reducible exact Below.refl _ _) | (with_reducible assumption) | (with_reducible refine Below.drew ?_) | (with_reducible refine belowDrewN ?_ _) | (with_reducible refine Below.alloc ?_ ?_ _) | (with_reducible refine Below.setCell ?_ ?_ _) | (with_reducible refine belowStep (by assumption) ?_ ?_) | (with_reducible exact Below.size (by assumption)) | go_size))⟩
end Go.Proofs.YtolgjokghecceaaGreatDoor


/-
  Contracts of the arithmetic of fractions.
-/
namespace Go.Proofs.YtolgjokghecceaaGreatDoor
open Go.RowKit
theorem toFraction_any (n d : Int) (w : World) : Calls Tryz.prog 8 #[.agg #[.int .i64 n, .int .i64 d]] w (Ret (.agg #[.int .i64 n, .int .i64 d]) w) := by
  go_enter Tryz.func8, Tryz.ntmps8
  go_wp2
  go_returns
  exact ⟨rfl, by (repeat' (first | (with_reducible exact Below.refl _ _) | (with_reducible assumption) | (with_reducible refine Below.drew ?_) | (with_reducible refine belowDrewN ?_ _) | (with_reducible refine Below.alloc ?_ ?_ _) | (with_reducible refine Below.setCell ?_ ?_ _) | (with_reducible refine belowStep (by assumption) ?_ ?_) | (with_reducible exact Below.size (by assumption)) | go_size))⟩
theorem unMake_any (n d : Int) (w : World) (hn : 0 ≤ n) (hd : 1 ≤ d) (hn2 : n ≤ 9223372036854775807) (hd2 : d ≤ 9223372036854775807) :
    Calls Tryz.prog 64 #[.int .i64 n, .int .i64 d] w (Ret (.agg #[.int .i64 (n / gcdI n d), .int .i64 (d / gcdI n d)]) w) := by
  have hg1 : 1 ≤ gcdI n d := by have := gcdI_pos n d (by omega); omega
  have hg2 : gcdI n d ≤ 9223372036854775807 := by have := gcdI_leR n d (by omega); omega
  have hq1 : 0 ≤ n / gcdI n d := Int.ediv_nonneg hn (by omega)
  have hq2 : 0 ≤ d / gcdI n d := Int.ediv_nonneg (by omega) (by omega)
  go_enter Tryz.func64, Tryz.ntmps64
  go_wp2_with (go_at_call 73; refine (unGcd_any _ _ _ hn (by omega) hn2 hd2).mono ?_; rintro e w1 ⟨rfl, k1, rfl⟩)
  go_region
  all_goals
    go_wp2
    go_returns
    exact ⟨rfl, by (repeat' (first | (with_reducible exact Below.refl _ _) | (with_reducible assumption) | (with_reducible refine Below.drew ?_) | (with_reducible refine belowDrewN ?_ _) | (with_reducible refine Below.alloc ?_ ?_ _) | (with_reducible refine Below.setCell ?_ ?_ _) | (with_reducible refine belowStep (by assumption) ?_ ?_) | (with_reducible exact Below.size (by assumption)) | go_size))⟩
end Go.Proofs.YtolgjokghecceaaGreatDoor
