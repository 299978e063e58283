
/-
  Contracts of the functions that test whether a pair of numbers is a fraction.
-/
import Derived.Test.YtiapljimgnhgoaaReduce
namespace Go.Proofs.Ytiapljimgnhgoaa
open Go.RowKit

theorem l1In_yes (n lo hi : Int) (w : World) (h1 : lo ≤ n) (h2 : n ≤ hi) :
    Calls Try.prog 37 #[.int .i64 n, .int .i64 lo, .int .i64 hi] w (RetQ (.bool true) w) := by
  go_enter Try.func37, Try.ntmps37
  go_wp2
  go_ret
  exact ⟨rfl, 0, rfl⟩
theorem l1In_no (n lo hi : Int) (w : World) (h1 : ¬ (lo ≤ n ∧ n ≤ hi)) :
    Calls Try.prog 37 #[.int .i64 n, .int .i64 lo, .int .i64 hi] w (RetQ (.bool false) w) := by
  by_cases h : lo ≤ n
  · have h2 : hi < n := by omega
    clear h1
    go_enter Try.func37, Try.ntmps37
    go_wp2
    go_ret
    exact ⟨ret_bool (by simp; omega), 0, rfl⟩
  · clear h1
    go_enter Try.func37, Try.ntmps37
    go_wp2
    go_ret
    exact ⟨rfl, 0, rfl⟩

end Go.Proofs.Ytiapljimgnhgoaa
