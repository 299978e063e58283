
/-
  Contracts of the model's own helpers on lists: a copy, and a number put into a rising list.
-/
import Derived.Test.YtbjblkfibinenadLists
import Derived.Test.YtbjblkfibinenadInsP
namespace Go.Proofs.Ytbjblkfibinenad
open Go.RowKit
theorem l1Own_any (w : World) (Axs : Option Addr) (cxs : Nat) (xs : List Int) (hxs : Reads w Axs xs) (lxs : xs.length ≤ 1048576) : Calls Try.prog 70 #[.slice Axs xs.length cxs] w (RetL xs w) := by
  have Hxs := Lib.hid hxs
  clear hxs
  go_enter Try.func70, Try.ntmps70
  go_wp2_with (at_builtin; refine wpList_app _ rfl _ _ rfl rfl (OwnI.zero w w.heap.size (Nat.le_refl _)) xs.length cxs rfl rfl (Hxs.out.below (by (repeat' (first | (with_reducible exact Below.refl _ _) | (with_reducible assumption) | (with_reducible refine Below.drew ?_) | (with_reducible refine belowDrewN ?_ _) | (with_reducible refine Below.alloc ?_ ?_ _) | (with_reducible refine Below.setCell ?_ ?_ _) | (with_reducible refine belowStep (by assumption) ?_ ?_) | (with_reducible exact Below.size (by assumption)) | go_size)))) (by simp; omega) (by simp) ?_; intro v3 w3 ho3 hb3 hg3 ht3; clear hg3 ht3)
  go_ret
  exact ⟨_, rfl, by simpa using ho3, by (repeat' (first | (with_reducible exact Below.refl _ _) | (with_reducible assumption) | (with_reducible refine Below.drew ?_) | (with_reducible refine belowDrewN ?_ _) | (with_reducible refine Below.alloc ?_ ?_ _) | (with_reducible refine Below.setCell ?_ ?_ _) | (with_reducible refine belowStep (by assumption) ?_ ?_) | (with_reducible exact Below.size (by assumption)) | go_size))⟩
theorem l1Own_n (w : World) (A : Option Addr) (n c : Nat) (ys : List Int) (hn : ys.length = n) (hr : Reads w A ys) (hl : n ≤ 1048576) : Calls Try.prog 70 #[.slice A n c] w (RetL ys w) := by
  subst hn
  exact l1Own_any w A c ys hr hl
end Go.Proofs.Ytbjblkfibinenad
