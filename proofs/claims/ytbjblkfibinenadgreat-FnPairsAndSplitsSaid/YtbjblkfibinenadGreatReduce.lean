
/-
  The contract of the function that brings a quotient into lowest terms.
-/
import Derived.Test.YtbjblkfibinenadGreatGcd
namespace Go.Proofs.YtbjblkfibinenadGreat
open Go.RowKit

set_option maxHeartbeats 400000 in
theorem reduce_any (n d : Int) (w : World) (hn : 0 ≤ n) (hd : 1 ≤ d) (hn2 : n ≤ 9223372036854775807) (hd2 : d ≤ 9223372036854775807) :
    Calls Tryz.prog 48 #[.int .i64 n, .int .i64 d] w (Ret (.tuple #[.agg #[.int .i64 (redN n d), .int .i64 (redD n d)], .bool (redB n d)]) w) := by
  have hg1 : 1 ≤ gcdI n d := by have := gcdI_pos n d (by omega); omega
  have hg2 : gcdI n d ≤ 9223372036854775807 := by have := gcdI_leR n d (by omega); omega
  have hq1 : 0 ≤ n / gcdI n d := Int.ediv_nonneg hn (by omega)
  have hq2 : 0 ≤ d / gcdI n d := Int.ediv_nonneg (by omega) (by omega)
  by_cases h1 : n / gcdI n d ≤ 1000000000
  · by_cases h2 : d / gcdI n d ≤ 1000000000
    · have HB := Lib.hid (redB_yes h1 h2)
      go_enter Tryz.func48, Tryz.ntmps48
      go_wp2_with (go_at_call 67; refine (commonDivisor_any _ _ _ hn (by omega) hn2 hd2).mono ?_; rintro e w1 ⟨rfl, k1, rfl⟩)
      go_region
      all_goals
        go_wp2
        go_returns
        exact ⟨ret_fr (by rw [redN, if_pos HB.out]) (by rw [redD, if_pos HB.out]) HB.out.symm, by (repeat' (first | (with_reducible exact Below.refl _ _) | (with_reducible assumption) | (with_reducible refine Below.drew ?_) | (with_reducible refine belowDrewN ?_ _) | (with_reducible refine Below.alloc ?_ ?_ _) | (with_reducible refine Below.setCell ?_ ?_ _) | (with_reducible refine belowStep (by assumption) ?_ ?_) | (with_reducible exact Below.size (by assumption)) | go_size))⟩
    · have HB := Lib.hid (redB_no2 (n := n) h2)
      go_enter Tryz.func48, Tryz.ntmps48
      go_wp2_with (go_at_call 67; refine (commonDivisor_any _ _ _ hn (by omega) hn2 hd2).mono ?_; rintro e w1 ⟨rfl, k1, rfl⟩)
      go_region
      all_goals
        go_wp2
        go_returns
        exact ⟨ret_fr (by rw [redN, HB.out]; rfl) (by rw [redD, HB.out]; rfl) HB.out.symm, by (repeat' (first | (with_reducible exact Below.refl _ _) | (with_reducible assumption) | (with_reducible refine Below.drew ?_) | (with_reducible refine belowDrewN ?_ _) | (with_reducible refine Below.alloc ?_ ?_ _) | (with_reducible refine Below.setCell ?_ ?_ _) | (with_reducible refine belowStep (by assumption) ?_ ?_) | (with_reducible exact Below.size (by assumption)) | go_size))⟩
  · have HB := Lib.hid (redB_no1 (d := d) h1)
    go_enter Tryz.func48, Tryz.ntmps48
    go_wp2_with (go_at_call 67; refine (commonDivisor_any _ _ _ hn (by omega) hn2 hd2).mono ?_; rintro e w1 ⟨rfl, k1, rfl⟩)
    go_region
    all_goals
      go_wp2
      go_returns
      exact ⟨ret_fr (by rw [redN, HB.out]; rfl) (by rw [redD, HB.out]; rfl) HB.out.symm, by (repeat' (first | (with_reducible exact Below.refl _ _) | (with_reducible assumption) | (with_reducible refine Below.drew ?_) | (with_reducible refine belowDrewN ?_ _) | (with_reducible refine Below.alloc ?_ ?_ _) | (with_reducible refine Below.setCell ?_ ?_ _) | (with_reducible refine belowStep (by assumption) ?_ ?_) | (with_reducible exact Below.size (by assumption)) | go_size))⟩

theorem reduce_yes (n d : Int) (w : World) (hn : 0 ≤ n) (hd : 1 ≤ d) (hn2 : n ≤ 9223372036854775807) (hd2 : d ≤ 9223372036854775807) (hb : redB n d = true) :
    Calls Tryz.prog 48 #[.int .i64 n, .int .i64 d] w (Ret (.tuple #[.agg #[.int .i64 (n / gcdI n d), .int .i64 (d / gcdI n d)], .bool true]) w) := by
  have h := reduce_any n d w hn hd hn2 hd2
  rw [redN, redD, hb] at h
  exact h

theorem reduce_no (n d : Int) (w : World) (hn : 0 ≤ n) (hd : 1 ≤ d) (hn2 : n ≤ 9223372036854775807) (hd2 : d ≤ 9223372036854775807) (hb : redB n d = false) :
    Calls Tryz.prog 48 #[.int .i64 n, .int .i64 d] w (Ret (.tuple #[.agg #[.int .i64 0, .int .i64 0], .bool false]) w) := by
  have h := reduce_any n d w hn hd hn2 hd2
  rw [redN, redD, hb] at h
  exact h
end Go.Proofs.YtbjblkfibinenadGreat
