
/-
  Contracts of the search for a number in a list.
-/
import Derived.Test.YtbjblkfibinenacList
import Derived.Test.YtbjblkfibinenacSumP
namespace Go.Proofs.Ytbjblkfibinenac
open Go.RowKit
def hasB : List Int → Int → Bool
  | [], _ => false
  | y :: ys, x => decide (y = x) || hasB ys x
def idxFrom : Nat → List Int → Int → Int
  | _, [], _ => -1
  | k, y :: ys, x => if y = x then (k : Int) else idxFrom (k + 1) ys x
theorem hasB_iff (xs : List Int) (x : Int) : hasB xs x = true ↔ x ∈ xs := by
  induction xs with
  | nil => simp [hasB]
  | cons y ys ih =>
    simp only [hasB, Bool.or_eq_true, decide_eq_true_eq, ih, List.mem_cons]
    exact ⟨fun h => h.imp Eq.symm id, fun h => h.imp Eq.symm id⟩
theorem idx_hit {k : Nat} {ys : List Int} {x y : Int} (h : y = x) : idxFrom k (y :: ys) x = k := by simp [idxFrom, h]
theorem idx_miss {k : Nat} {ys : List Int} {x y : Int} (h : y ≠ x) : idxFrom k (y :: ys) x = idxFrom (k + 1) ys x := by simp [idxFrom, h]
theorem idx_has (xs : List Int) (x : Int) : ∀ k : Nat, decide (0 ≤ idxFrom k xs x) = hasB xs x := by
  induction xs with
  | nil => intro k; rfl
  | cons y ys ih =>
    intro k
    by_cases h : y = x
    · rw [idx_hit h]; simp [hasB, h]
    · rw [idx_miss h, ih]; simp [hasB, h]
theorem has_hit {ys : List Int} {x y : Int} (h : y = x) : hasB (y :: ys) x = true := by simp [hasB, h]
theorem has_miss {ys : List Int} {x y : Int} (h : y ≠ x) : hasB (y :: ys) x = hasB ys x := by simp [hasB, h]

set_option maxHeartbeats 1000000 in
theorem index_any (w : World) (v : Int) (Axs : Option Addr) (cxs : Nat) (xs : List Int) (hxs : Reads w Axs xs) (lxs : xs.length ≤ 1048576) : Calls Try.prog 140 #[.slice Axs xs.length cxs, .int .i64 v] w (RetQ (.int .i64 (idxFrom 0 xs v)) w) := by
  go_enter Try.func140, Try.ntmps140
  go_wp2
  go_loopw [8] (fun v8 wr => ∃ k : Nat, k ≤ xs.length ∧ v8 = .int .i64 k ∧ idxFrom 0 xs v = idxFrom k (xs.drop k) v ∧ ∃ n, wr = w.drewN n) (fun v8 _ => xs.length - (intOf v8).toNat)
  case atStart => exact ⟨0, Nat.zero_le _, rfl, rfl, 0, rfl⟩
  case round =>
    obtain ⟨k, hk, rfl, hr, n, rfl⟩ := hrel
    have Hr := Lib.hid hr
    clear hr
    by_cases hlt : k < xs.length
    · obtain ⟨b, o, x, rfl, hb, hx, hcell⟩ := hxs.at_ hlt
      have Hx := Lib.hid hx
      clear hx
      by_cases he : x = v
      · have hee : (v == x) = true := by simp [he]
        have He := Lib.hid he
        clear he
        go_wp2
        go_ret
        exact ⟨ret_int (by rw [Hr.out, drop_at Hx.out, idx_hit He.out]), n, rfl⟩
      · have hee : (v == x) = false := by simp; omega
        have He := Lib.hid he
        clear he
        go_wp2
        go_roundw
        case rel => exact ⟨k + 1, by omega, by go_num, by rw [Hr.out, drop_at Hx.out, idx_miss He.out], n, rfl⟩
        case measure => simp [intOf]; omega
    · obtain rfl : k = xs.length := by omega
      go_wp2
      go_ret
      exact ⟨ret_int (by rw [Hr.out, drop_all]; rfl), n, rfl⟩
theorem contains_any (w : World) (v : Int) (Axs : Option Addr) (cxs : Nat) (xs : List Int) (hxs : Reads w Axs xs) (lxs : xs.length ≤ 1048576) : Calls Try.prog 133 #[.slice Axs xs.length cxs, .int .i64 v] w (RetQ (.bool (hasB xs v)) w) := by
  have Hxs := Lib.hid hxs
  clear hxs
  go_enter Try.func133, Try.ntmps133
  go_wp2_with (go_at_call 140; refine (index_any _ _ _ _ _ Hxs.out lxs).mono ?_; rintro e w1 ⟨rfl, k1, rfl⟩)
  go_ret
  exact ⟨ret_bool (idx_has xs v 0), _, rfl⟩
set_option maxHeartbeats 1000000 in
theorem l1Has_any (w : World) (v : Int) (Axs : Option Addr) (cxs : Nat) (xs : List Int) (hxs : Reads w Axs xs) (lxs : xs.length ≤ 1048576) : Calls Try.prog 117 #[.slice Axs xs.length cxs, .int .i64 v] w (RetQ (.bool (hasB xs v)) w) := by
  go_enter Try.func117, Try.ntmps117
  go_wp2
  go_loopw [9] (fun v8 wr => ∃ k : Nat, k ≤ xs.length ∧ v8 = .int .i64 k ∧ hasB xs v = hasB (xs.drop k) v ∧ ∃ n, wr = w.drewN n) (fun v8 _ => xs.length - (intOf v8).toNat)
  case atStart => exact ⟨0, Nat.zero_le _, rfl, rfl, 0, rfl⟩
  case round =>
    obtain ⟨k, hk, rfl, hr, n, rfl⟩ := hrel
    have Hr := Lib.hid hr
    clear hr
    by_cases hlt : k < xs.length
    · obtain ⟨b, o, x, rfl, hb, hx, hcell⟩ := hxs.at_ hlt
      have Hx := Lib.hid hx
      clear hx
      by_cases he : x = v
      · have hee : (x == v) = true := by simp [he]
        have He := Lib.hid he
        clear he
        go_wp2
        go_ret
        exact ⟨ret_bool (by rw [Hr.out, drop_at Hx.out, has_hit He.out]), n, rfl⟩
      · have hee : (x == v) = false := by simp; omega
        have He := Lib.hid he
        clear he
        go_wp2
        go_roundw
        case rel => exact ⟨k + 1, by omega, by go_num, by rw [Hr.out, drop_at Hx.out, has_miss He.out], n, rfl⟩
        case measure => simp [intOf]; omega
    · obtain rfl : k = xs.length := by omega
      go_wp2
      go_ret
      exact ⟨ret_bool (by rw [Hr.out, drop_all]; rfl), n, rfl⟩
end Go.Proofs.Ytbjblkfibinenac
