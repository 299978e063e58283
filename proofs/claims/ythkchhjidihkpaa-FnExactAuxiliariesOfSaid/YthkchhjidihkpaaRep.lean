
/-
  Contracts of the test of a repeated list and of its sum.
-/
import Derived.Test.YthkchhjidihkpaaSum2
namespace Go.Proofs.Ythkchhjidihkpaa
open Go.RowKit
theorem l1All_any (w : World) (lo hi : Int) (Axs : Option Addr) (cxs : Nat) (xs : List Int) (hxs : Reads w Axs xs) (lxs : xs.length ≤ 1048576) : Calls Try.prog 68 #[.slice Axs xs.length cxs, .int .i64 lo, .int .i64 hi] w (RetQ (.bool (xs.all fun x => decide (lo ≤ x) && decide (x ≤ hi))) w) := by
  go_enter Try.func68, Try.ntmps68
  go_wp2
  go_loopw [11] (fun v11 wr => ∃ k : Nat, k ≤ xs.length ∧ v11 = .int .i64 k ∧ (xs.all fun x => decide (lo ≤ x) && decide (x ≤ hi)) = ((xs.drop k).all fun x => decide (lo ≤ x) && decide (x ≤ hi)) ∧ ∃ n, wr = w.drewN n) (fun v11 _ => xs.length - (intOf v11).toNat)
  case atStart => exact ⟨0, Nat.zero_le _, rfl, rfl, 0, rfl⟩
  case round =>
    obtain ⟨k, hk, rfl, hr, n, rfl⟩ := hrel
    have Hr := Lib.hid hr
    clear hr
    by_cases hlt : k < xs.length
    · obtain ⟨b, o, x, rfl, hb, hx, hcell⟩ := hxs.at_ hlt
      have Hx := Lib.hid hx
      clear hx
      by_cases hin : lo ≤ x ∧ x ≤ hi
      · go_wp2_with (go_at_call 50; refine (l1In_yes _ _ _ _ hin.1 hin.2).mono ?_; rintro e w1 ⟨rfl, k1, rfl⟩)
        go_roundw
        case rel => exact ⟨k + 1, by omega, by go_num, by rw [Hr.out, drop_at Hx.out, List.all_cons]; simp [hin.1, hin.2], _, rfl⟩
        case measure => simp [intOf]; omega
      · go_wp2_with (go_at_call 50; refine (l1In_no _ _ _ _ hin).mono ?_; rintro e w1 ⟨rfl, k1, rfl⟩)
        go_ret
        exact ⟨ret_bool (by
          rw [Hr.out, drop_at Hx.out, List.all_cons]
          have h2 : (decide (lo ≤ x) && decide (x ≤ hi)) = false := by
            by_cases h1 : lo ≤ x
            · have h2 : ¬ x ≤ hi := fun h2 => hin ⟨h1, h2⟩
              simp [h2]
            · simp [h1]
          rw [h2]; rfl), _, rfl⟩
    · obtain rfl : k = xs.length := by omega
      go_wp2
      go_ret
      exact ⟨ret_bool (by rw [Hr.out, drop_all]; rfl), _, rfl⟩
theorem all_up {xs : List Int} (h : (xs.all fun x => decide (1 ≤ x) && decide (x ≤ 1000000000)) = false) : repB xs = false := by
  refine repB_up ?_
  cases hu : up 0 1 xs with
  | false => rfl
  | true =>
    exfalso
    have h2 := up_in (by omega) hu
    have : (xs.all fun x => decide (1 ≤ x) && decide (x ≤ 1000000000)) = true := List.all_eq_true.2 fun x hx => by
      have := h2 x hx
      simp [this.1, this.2]
    rw [this] at h; cases h
theorem all_in {xs : List Int} (h : (xs.all fun x => decide (1 ≤ x) && decide (x ≤ 1000000000)) = true) : ∀ (i : Nat) (x : Int), xs[i]? = some x → 1 ≤ x ∧ x ≤ 1000000000 := fun i x hx => by
  have := List.all_eq_true.1 h x (List.mem_of_getElem? hx)
  simpa using this
theorem rep_up {xs : List Int} (h : (decide (xs.length ≤ 24) && up 0 1 xs) = false) : repB xs = false := by
  simp only [repB]
  rw [h]; rfl
theorem good_rep {xs : List Int} (h : repB xs = true) : goodB (sumN xs) (sumD xs) = true := by
  have hp := repB_parts h
  exact sumL_good good_zero (up_idx (by omega) hp.2.1) hp.2.2
end Go.Proofs.Ythkchhjidihkpaa
