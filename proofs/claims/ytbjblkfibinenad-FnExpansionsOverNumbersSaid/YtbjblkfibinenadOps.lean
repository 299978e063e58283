
/-
  Contracts of the arithmetic of fractions.
-/
import Derived.Test.YtbjblkfibinenadFrac
namespace Go.Proofs.Ytbjblkfibinenad
open Go.RowKit
theorem toFraction_any (n d : Int) (w : World) : Calls Try.prog 10 #[.agg #[.int .i64 n, .int .i64 d]] w (Ret (.agg #[.int .i64 n, .int .i64 d]) w) := by
  go_enter Try.func10, Try.ntmps10
  go_wp2
  go_returns
  exact ⟨rfl, by (repeat' (first | (with_reducible exact Below.refl _ _) | (with_reducible assumption) | (with_reducible refine Below.drew ?_) | (with_reducible refine belowDrewN ?_ _) | (with_reducible refine Below.alloc ?_ ?_ _) | (with_reducible refine Below.setCell ?_ ?_ _) | (with_reducible refine belowStep (by assumption) ?_ ?_) | (with_reducible exact Below.size (by assumption)) | go_size))⟩
theorem unMake_any (n d : Int) (w : World) (hn : 0 ≤ n) (hd : 1 ≤ d) (hn2 : n ≤ 9223372036854775807) (hd2 : d ≤ 9223372036854775807) :
    Calls Try.prog 47 #[.int .i64 n, .int .i64 d] w (Ret (.agg #[.int .i64 (n / gcdI n d), .int .i64 (d / gcdI n d)]) w) := by
  have hg1 : 1 ≤ gcdI n d := by have := gcdI_pos n d (by omega); omega
  have hg2 : gcdI n d ≤ 9223372036854775807 := by have := gcdI_leR n d (by omega); omega
  have hq1 : 0 ≤ n / gcdI n d := Int.ediv_nonneg hn (by omega)
  have hq2 : 0 ≤ d / gcdI n d := Int.ediv_nonneg (by omega) (by omega)
  go_enter Try.func47, Try.ntmps47
  go_wp2_with (go_at_call 55; refine (unGcd_any _ _ _ hn (by omega) hn2 hd2).mono ?_; rintro e w1 ⟨rfl, k1, rfl⟩)
  go_region
  all_goals
    go_wp2
    go_returns
    exact ⟨rfl, by (repeat' (first | (with_reducible exact Below.refl _ _) | (with_reducible assumption) | (with_reducible refine Below.drew ?_) | (with_reducible refine belowDrewN ?_ _) | (with_reducible refine Below.alloc ?_ ?_ _) | (with_reducible refine Below.setCell ?_ ?_ _) | (with_reducible refine belowStep (by assumption) ?_ ?_) | (with_reducible exact Below.size (by assumption)) | go_size))⟩
end Go.Proofs.Ytbjblkfibinenad
