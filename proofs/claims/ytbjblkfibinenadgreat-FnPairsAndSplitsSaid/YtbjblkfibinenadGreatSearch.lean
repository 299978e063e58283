
/-
  The contract of the library's binary search in a rising list.
-/
import Derived.Test.YtbjblkfibinenadGreatInsP
import Derived.Test.YtbjblkfibinenadGreatOrder
namespace Go.Proofs.YtbjblkfibinenadGreat
open Go.RowKit
theorem less_yes (a b : Int) (w : World) (h : a < b) : Calls Tryz.prog 86 #[.int .i64 a, .int .i64 b] w (RetQ (.bool true) w) := by
  go_enter Tryz.func86, Tryz.ntmps86
  go_wp2_with (go_at_call 97; refine (isNaN_any _ _).mono ?_; rintro e w1 ⟨rfl, k1, rfl⟩)
  go_ret
  exact ⟨ret_bool (by first | (simp; done) | (simp; omega)), _, rfl⟩
theorem less_no (a b : Int) (w : World) (h : b ≤ a) : Calls Tryz.prog 86 #[.int .i64 a, .int .i64 b] w (RetQ (.bool false) w) := by
  go_enter Tryz.func86, Tryz.ntmps86
  go_wp2_with (go_at_call 97; refine (isNaN_any _ _).mono ?_; rintro e w1 ⟨rfl, k1, rfl⟩)
  go_ret
  exact ⟨ret_bool (by first | (simp; done) | (simp; omega)), _, rfl⟩

end Go.Proofs.YtbjblkfibinenadGreat
