
/-
  The draw of an index of Sylvester's numbers, and plain facts on their sums.
-/
import Derived.Test.YtbjblkfibinenacDraw
import Derived.Test.YtbjblkfibinenacSylT
import Derived.Test.YtbjblkfibinenacGrX
import Derived.Test.YtbjblkfibinenacLawK
namespace Go.Proofs.Ytbjblkfibinenac
open Go.RowKit
theorem Cur.begin (w : World) (A : Option Addr) (n c : Nat) (T : TypeId) (hr : ReadsB w A n) (hn : n ≤ 1048576) : Cur w (w.alloc (.cells #[.slice A n c, .int .i64 0, .int .u64 0] T)) w.heap.size 0 :=
  ⟨Nat.le_refl _, by simp, (Below.refl _ _).alloc (Nat.le_refl _) _, A, n, c, 0, 0, (by simp), hn, hr, (by simp), by omega, by omega, (by simp), by simp [go_sem], by simp [go_sem]⟩
set_option maxHeartbeats 2000000 in
theorem drawSylGap_any (w : World) (A : Option Addr) (n c : Nat) (hr : ReadsB w A n) (hn : n ≤ 1048576) : Calls Try.prog 38 #[.slice A n c] w (fun e w' => ∃ k : Int, e = .returned (.int .i64 k) ∧ -1 ≤ k ∧ k ≤ 6 ∧ Below w.heap.size w w') := by
  have HC0 := Lib.hid (Cur.begin w A n c 65 hr hn)
  clear hr
  go_enter Try.func38, Try.ntmps38
  go_wp2_with fail
  refine (pick_any w _ w.heap.size 0 (by omega) _ (by omega) HC0.out).mono ?_; rintro e w1 ⟨x, rfl, x0, x1, hc1, hg1⟩
  have Hb := Lib.hid hc1.base.2.2
  clear hc1 hg1
  go_wp2
  go_ret
  exact ⟨_, rfl, by omega, by omega, Hb.out⟩
theorem pUnit_any (d : Int) (w : World) : Calls Try.prog 36 #[.int .i64 d] w (Ret (.agg #[.int .i64 1, .int .i64 d]) w) := by
  go_enter Try.func36, Try.ntmps36
  go_wp2
  go_returns
  exact ⟨rfl, by (repeat' (first | (with_reducible exact Below.refl _ _) | (with_reducible assumption) | (with_reducible refine Below.drew ?_) | (with_reducible refine belowDrewN ?_ _) | (with_reducible refine Below.alloc ?_ ?_ _) | (with_reducible refine Below.setCell ?_ ?_ _) | (with_reducible refine belowStep (by assumption) ?_ ?_) | (with_reducible exact Below.size (by assumption)) | go_size))⟩
theorem pWhole_any' (n : Int) (w : World) : Calls Try.prog 43 #[.int .i64 n] w (Ret (.agg #[.int .i64 n, .int .i64 1]) w) := by
  go_enter Try.func43, Try.ntmps43
  go_wp2
  go_returns
  exact ⟨rfl, by (repeat' (first | (with_reducible exact Below.refl _ _) | (with_reducible assumption) | (with_reducible refine Below.drew ?_) | (with_reducible refine belowDrewN ?_ _) | (with_reducible refine Below.alloc ?_ ?_ _) | (with_reducible refine Below.setCell ?_ ?_ _) | (with_reducible refine belowStep (by assumption) ?_ ?_) | (with_reducible exact Below.size (by assumption)) | go_size))⟩
/-- the first of Sylvester's numbers -/
def sylL : Nat → List Int
  | 0 => []
  | j + 1 => sylL j ++ [syl j]
theorem sylL_len : ∀ j, (sylL j).length = j
  | 0 => rfl
  | j + 1 => by simp [sylL, sylL_len j]
theorem syl_sum : ∀ m, m ≤ 5 → redB (1 * (syl m - 1) - 1 * 1) (1 * (syl m - 1)) = true ∧ redN (1 * (syl m - 1) - 1 * 1) (1 * (syl m - 1)) = syl m - 2 ∧ redD (1 * (syl m - 1) - 1 * 1) (1 * (syl m - 1)) = syl m - 1
  | 0, _ => by decide +kernel
  | 1, _ => by decide +kernel
  | 2, _ => by decide +kernel
  | 3, _ => by decide +kernel
  | 4, _ => by decide +kernel
  | 5, _ => by decide +kernel
  | k + 6, h => by omega
theorem syl_gex : ∀ m, m ≤ 5 → gexO (syl m - 2) (syl m - 1) = some (sylL m)
  | 0, _ => by decide +kernel
  | 1, _ => by decide +kernel
  | 2, _ => by decide +kernel
  | 3, _ => by decide +kernel
  | 4, _ => by decide +kernel
  | 5, _ => by decide +kernel
  | k + 6, h => by omega
end Go.Proofs.Ytbjblkfibinenac
