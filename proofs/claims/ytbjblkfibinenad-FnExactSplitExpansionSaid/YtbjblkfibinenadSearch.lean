
/-
  The contract of the library's binary search in a rising list.
-/
import Derived.Test.YtbjblkfibinenadInsP
import Derived.Test.YtbjblkfibinenadOrder
namespace Go.Proofs.Ytbjblkfibinenad
open Go.RowKit
theorem less_yes (a b : Int) (w : World) (h : a < b) : Calls Try.prog 93 #[.int .i64 a, .int .i64 b] w (RetQ (.bool true) w) := by
  go_enter Try.func93, Try.ntmps93
  go_wp2_with (go_at_call 105; refine (isNaN_any _ _).mono ?_; rintro e w1 ⟨rfl, k1, rfl⟩)
  go_ret
  exact ⟨ret_bool (by first | (simp; done) | (simp; omega)), _, rfl⟩
theorem less_no (a b : Int) (w : World) (h : b ≤ a) : Calls Try.prog 93 #[.int .i64 a, .int .i64 b] w (RetQ (.bool false) w) := by
  go_enter Try.func93, Try.ntmps93
  go_wp2_with (go_at_call 105; refine (isNaN_any _ _).mono ?_; rintro e w1 ⟨rfl, k1, rfl⟩)
  go_ret
  exact ⟨ret_bool (by first | (simp; done) | (simp; omega)), _, rfl⟩

end Go.Proofs.Ytbjblkfibinenad
