
/-
  The contract of the model's test of a rising list.
-/
import Derived.Test.YtbjblkfibinenadGreatList
import Derived.Test.YtbjblkfibinenadGreatSumP
import Derived.Test.YtbjblkfibinenadGreatFrac
namespace Go.Proofs.YtbjblkfibinenadGreat
open Go.RowKit
set_option maxHeartbeats 2000000 in
theorem l1Rising_any (w : World) (lo hi : Int) (Axs : Option Addr) (cxs : Nat) (xs : List Int) (hxs : Reads w Axs xs) (lxs : xs.length ≤ 1048576) : Calls Tryz.prog 77 #[.slice Axs xs.length cxs, .int .i64 lo, .int .i64 hi] w (RetQ (.bool (rise lo hi none xs)) w) := by
  go_enter Tryz.func77, Tryz.ntmps77
  go_wp2
  go_loopw [11] (fun v11 wr => ∃ k : Nat, k ≤ xs.length ∧ v11 = .int .i64 k ∧ rise lo hi none xs = rise lo hi (ahead xs k) (xs.drop k) ∧ ∃ n, wr = w.drewN n) (fun v11 _ => xs.length - (intOf v11).toNat)
  case atStart => exact ⟨0, Nat.zero_le _, rfl, rfl, 0, rfl⟩
  case round =>
    obtain ⟨k, hk, rfl, hr, n, rfl⟩ := hrel
    have Hr := Lib.hid hr
    clear hr
    by_cases hlt : k < xs.length
    · rcases k with _ | j
      · obtain ⟨b, o, x, rfl, hb, hx, hcell⟩ := hxs.at_ hlt
        rw [Nat.add_zero] at hcell
        rw [show ((0 : Nat) : Int) = 0 from rfl]
        have Hx := Lib.hid hx
        clear hx
        by_cases hin : lo ≤ x ∧ x ≤ hi
        · go_wp2_with (go_at_call 49; refine (l1In_yes _ _ _ _ hin.1 hin.2).mono ?_; rintro e w1 ⟨rfl, k1, rfl⟩)
          go_roundw
          case rel => exact ⟨1, by omega, by go_num, by rw [Hr.out, drop_at Hx.out, show ahead xs 0 = none from rfl, rise_first hin.1 hin.2, show ahead xs 1 = xs[0]? from rfl, Hx.out], _, rfl⟩
          case measure => simp [intOf]; omega
        · go_wp2_with (go_at_call 49; refine (l1In_no _ _ _ _ hin).mono ?_; rintro e w1 ⟨rfl, k1, rfl⟩)
          go_ret
          exact ⟨ret_bool (by rw [Hr.out, drop_at Hx.out, rise_out hin]), _, rfl⟩
      · obtain ⟨b, o, x, y, rfl, hb, hx, hy, hcell, hcell2⟩ := hxs.at2 hlt (show j < xs.length by omega)
        have Hx := Lib.hid hx
        have Hy := Lib.hid hy
        clear hx hy
        by_cases hin : lo ≤ x ∧ x ≤ hi
        · by_cases hlt2 : y < x
          · go_wp2_with (go_at_call 49; refine (l1In_yes _ _ _ _ hin.1 hin.2).mono ?_; rintro e w1 ⟨rfl, k1, rfl⟩)
            go_roundw
            case rel => exact ⟨j + 1 + 1, by omega, by go_num, by rw [Hr.out, drop_at Hx.out, show ahead xs (j + 1) = xs[j]? from rfl, Hy.out, rise_next hin.1 hin.2 hlt2, show ahead xs (j + 1 + 1) = xs[j + 1]? from rfl, Hx.out], _, rfl⟩
            case measure => simp [intOf]; omega
          · go_wp2_with (go_at_call 49; refine (l1In_yes _ _ _ _ hin.1 hin.2).mono ?_; rintro e w1 ⟨rfl, k1, rfl⟩)
            go_ret
            exact ⟨ret_bool (by rw [Hr.out, drop_at Hx.out, show ahead xs (j + 1) = xs[j]? from rfl, Hy.out, rise_low (by omega)]), _, rfl⟩
        · go_wp2_with (go_at_call 49; refine (l1In_no _ _ _ _ hin).mono ?_; rintro e w1 ⟨rfl, k1, rfl⟩)
          go_ret
          exact ⟨ret_bool (by rw [Hr.out, drop_at Hx.out, rise_out hin]), _, rfl⟩
    · obtain rfl : k = xs.length := by omega
      go_wp2
      go_ret
      exact ⟨ret_bool (by rw [Hr.out, drop_all, rise_nil]), _, rfl⟩
end Go.Proofs.YtbjblkfibinenadGreat
