import Derived.Test.YthkchhjidihkpabPk3
import Derived.Test.YthkchhjidihkpabPk2

/-
  The contract of the function that brings a quotient into lowest terms.
-/
namespace Go.Proofs.Ythkchhjidihkpab
open Go.RowKit

set_option maxHeartbeats 400000 in
theorem reduce_any (n d : Int) (w : World) (hn : 0 ≤ n) (hd : 1 ≤ d) (hn2 : n ≤ 9223372036854775807) (hd2 : d ≤ 9223372036854775807) :
    Calls Try.prog 80 #[.int .i64 n, .int .i64 d] w (Ret (.tuple #[.agg #[.int .i64 (redN n d), .int .i64 (redD n d)], .bool (redB n d)]) w) := by
  have hg1 : 1 ≤ gcdI n d := by have := gcdI_pos n d (by omega); omega
  have hg2 : gcdI n d ≤ 9223372036854775807 := by have := gcdI_leR n d (by omega); omega
  have hq1 : 0 ≤ n / gcdI n d := Int.ediv_nonneg hn (by omega)
  have hq2 : 0 ≤ d / gcdI n d := Int.ediv_nonneg (by omega) (by omega)
  by_cases h1 : n / gcdI n d ≤ 1000000000
  · by_cases h2 : d / gcdI n d ≤ 1000000000
    · have HB := Lib.hid (redB_yes h1 h2)
      go_enter Try.func80, Try.ntmps80
      go_wp2_with (go_at_call 118; refine (commonDivisor_any _ _ _ hn (by omega) hn2 hd2).mono ?_; rintro e w1 ⟨rfl, k1, rfl⟩)
      go_region
      all_goals
        go_wp2
        go_returns
        exact ⟨ret_fr (by rw [redN, if_pos HB.out]) (by rw [redD, if_pos HB.out]) HB.out.symm, by (repeat' (first | (with_reducible exact Below.refl _ _) | (with_reducible assumption) | (with_reducible refine Below.drew ?_) | (with_reducible refine belowDrewN ?_ _) | (with_reducible refine Below.alloc ?_ ?_ _) | (with_reducible refine Below.setCell ?_ ?_ _) | (with_reducible refine belowStep (by assumption) ?_ ?_) | (with_reducible exact Below.size (by assumption)) | go_size))⟩
    · have HB := Lib.hid (redB_no2 (n := n) h2)
      go_enter Try.func80, Try.ntmps80
      go_wp2_with (go_at_call 118; refine (commonDivisor_any _ _ _ hn (by omega) hn2 hd2).mono ?_; rintro e w1 ⟨rfl, k1, rfl⟩)
      go_region
      all_goals
        go_wp2
        go_returns
        exact ⟨ret_fr (by rw [redN, HB.out]; rfl) (by rw [redD, HB.out]; rfl) HB.out.symm, by (repeat' (first | (with_reducible exact Below.refl _ _) | (with_reducible assumption) | (with_reducible refine Below.drew ?_) | (with_reducible refine belowDrewN ?_ _) | (with_reducible refine Below.alloc ?_ ?_ _) | (with_reducible refine Below.setCell ?_ ?_ _) | (with_reducible refine belowStep (by assumption) ?_ ?_) | (with_reducible exact Below.size (by assumption)) | go_size))⟩
  · have HB := Lib.hid (redB_no1 (d := d) h1)
    go_enter Try.func80, Try.ntmps80
    go_wp2_with (go_at_call 118; refine (commonDivisor_any _ _ _ hn (by omega) hn2 hd2).mono ?_; rintro e w1 ⟨rfl, k1, rfl⟩)
    go_region
    all_goals
      go_wp2
      go_returns
      exact ⟨ret_fr (by rw [redN, HB.out]; rfl) (by rw [redD, HB.out]; rfl) HB.out.symm, by (repeat' (first | (with_reducible exact Below.refl _ _) | (with_reducible assumption) | (with_reducible refine Below.drew ?_) | (with_reducible refine belowDrewN ?_ _) | (with_reducible refine Below.alloc ?_ ?_ _) | (with_reducible refine Below.setCell ?_ ?_ _) | (with_reducible refine belowStep (by assumption) ?_ ?_) | (with_reducible exact Below.size (by assumption)) | go_size))⟩

theorem reduce_yes (n d : Int) (w : World) (hn : 0 ≤ n) (hd : 1 ≤ d) (hn2 : n ≤ 9223372036854775807) (hd2 : d ≤ 9223372036854775807) (hb : redB n d = true) :
    Calls Try.prog 80 #[.int .i64 n, .int .i64 d] w (Ret (.tuple #[.agg #[.int .i64 (n / gcdI n d), .int .i64 (d / gcdI n d)], .bool true]) w) := by
  have h := reduce_any n d w hn hd hn2 hd2
  rw [redN, redD, hb] at h
  exact h

theorem reduce_no (n d : Int) (w : World) (hn : 0 ≤ n) (hd : 1 ≤ d) (hn2 : n ≤ 9223372036854775807) (hd2 : d ≤ 9223372036854775807) (hb : redB n d = false) :
    Calls Try.prog 80 #[.int .i64 n, .int .i64 d] w (Ret (.tuple #[.agg #[.int .i64 0, .int .i64 0], .bool false]) w) := by
  have h := reduce_any n d w hn hd hn2 hd2
  rw [redN, redD, hb] at h
  exact h
end Go.Proofs.Ythkchhjidihkpab


/-
  Contracts of the functions that test whether a pair of numbers is a fraction.
-/
namespace Go.Proofs.Ythkchhjidihkpab
open Go.RowKit

set_option maxHeartbeats 400000 in
theorem isFraction_any (n d : Int) (w : World) (hn1 : -9223372036854775808 ≤ n) (hn2 : n ≤ 9223372036854775807) (hd1 : -9223372036854775808 ≤ d) (hd2 : d ≤ 9223372036854775807) :
    Calls Try.prog 91 #[.agg #[.int .i64 n, .int .i64 d]] w (Ret (.bool (goodB n d)) w) := by
  by_cases h0 : n < 0
  · have HB := Lib.hid (goodB_not (n := n) (d := d) (by omega))
    go_enter Try.func91, Try.ntmps91
    go_wp2
    go_ret
    exact ⟨ret_bool HB.out.symm, by (repeat' (first | (with_reducible exact Below.refl _ _) | (with_reducible assumption) | (with_reducible refine Below.drew ?_) | (with_reducible refine belowDrewN ?_ _) | (with_reducible refine Below.alloc ?_ ?_ _) | (with_reducible refine Below.setCell ?_ ?_ _) | (with_reducible refine belowStep (by assumption) ?_ ?_) | (with_reducible exact Below.size (by assumption)) | go_size))⟩
  · by_cases h1 : d < 1
    · have HB := Lib.hid (goodB_not (n := n) (d := d) (by omega))
      go_enter Try.func91, Try.ntmps91
      go_wp2
      go_ret
      exact ⟨ret_bool HB.out.symm, by (repeat' (first | (with_reducible exact Below.refl _ _) | (with_reducible assumption) | (with_reducible refine Below.drew ?_) | (with_reducible refine belowDrewN ?_ _) | (with_reducible refine Below.alloc ?_ ?_ _) | (with_reducible refine Below.setCell ?_ ?_ _) | (with_reducible refine belowStep (by assumption) ?_ ?_) | (with_reducible exact Below.size (by assumption)) | go_size))⟩
    · cases hr : redB n d with
      | false =>
        have HB := Lib.hid (goodB_not (n := n) (d := d) (fun h => by
          have := red_one h.2.2.2.2
          rw [redB_yes (by omega) (by omega)] at hr; cases hr))
        have Hr := Lib.hid hr
        clear hr
        go_enter Try.func91, Try.ntmps91
        go_wp2_with (go_at_call 80; refine (reduce_no _ _ _ (by omega) (by omega) hn2 hd2 Hr.out).mono ?_; rintro e w1 ⟨rfl, hb1⟩; obtain ⟨hc1, hf1⟩ := bcellB hb1; have hz1 := hb1.size; (try simp only [World.size_alloc] at hc1 hf1 hz1); (try have hy1_r_0 : wr.heap.size < w1.heap.size := by omega); (try have hn1_r_0 : wr.heap.size ≠ w1.heap.size := by omega); (try have hm1_r_0 : w1.heap.size ≠ wr.heap.size := by omega); (try have hy1_r_1 : wr.heap.size + 1 < w1.heap.size := by omega); (try have hn1_r_1 : wr.heap.size + 1 ≠ w1.heap.size := by omega); (try have hm1_r_1 : w1.heap.size ≠ wr.heap.size + 1 := by omega); (try have hy1_r_2 : wr.heap.size + 1 + 1 < w1.heap.size := by omega); (try have hp1_r_1 : wr.heap.size < w1.heap.size + 1 := by omega); (try have hp1_r_2 : wr.heap.size < w1.heap.size + 1 + 1 := by omega); (try have hy1_0_0 : w.heap.size < w1.heap.size := by omega); (try have hn1_0_0 : w.heap.size ≠ w1.heap.size := by omega); (try have hm1_0_0 : w1.heap.size ≠ w.heap.size := by omega); (try have hy1_0_1 : w.heap.size + 1 < w1.heap.size := by omega); (try have hn1_0_1 : w.heap.size + 1 ≠ w1.heap.size := by omega); (try have hm1_0_1 : w1.heap.size ≠ w.heap.size + 1 := by omega); (try have hy1_0_2 : w.heap.size + 1 + 1 < w1.heap.size := by omega); (try have hp1_0_1 : w.heap.size < w1.heap.size + 1 := by omega); (try have hp1_0_2 : w.heap.size < w1.heap.size + 1 + 1 := by omega); (try have hg1_g1 : g1 < w1.heap.size := by omega); (try have hi1_g1 : g1 ≠ w1.heap.size := by omega); (try have hj1_g1 : w1.heap.size ≠ g1 := by omega); (try have hk1_g1 : g1 < w1.heap.size + 1 := by omega); (try have hg1_g2 : g2 < w1.heap.size := by omega); (try have hi1_g2 : g2 ≠ w1.heap.size := by omega); (try have hj1_g2 : w1.heap.size ≠ g2 := by omega); (try have hk1_g2 : g2 < w1.heap.size + 1 := by omega))
        go_ret
        exact ⟨ret_bool HB.out.symm, by (repeat' (first | (with_reducible exact Below.refl _ _) | (with_reducible assumption) | (with_reducible refine Below.drew ?_) | (with_reducible refine belowDrewN ?_ _) | (with_reducible refine Below.alloc ?_ ?_ _) | (with_reducible refine Below.setCell ?_ ?_ _) | (with_reducible refine belowStep (by assumption) ?_ ?_) | (with_reducible exact Below.size (by assumption)) | go_size))⟩
      | true =>
        have Hr := Lib.hid hr
        clear hr
        go_enter Try.func91, Try.ntmps91
        go_wp2_with (go_at_call 80; refine (reduce_yes _ _ _ (by omega) (by omega) hn2 hd2 Hr.out).mono ?_; rintro e w1 ⟨rfl, hb1⟩; obtain ⟨hc1, hf1⟩ := bcellB hb1; have hz1 := hb1.size; (try simp only [World.size_alloc] at hc1 hf1 hz1); (try have hy1_r_0 : wr.heap.size < w1.heap.size := by omega); (try have hn1_r_0 : wr.heap.size ≠ w1.heap.size := by omega); (try have hm1_r_0 : w1.heap.size ≠ wr.heap.size := by omega); (try have hy1_r_1 : wr.heap.size + 1 < w1.heap.size := by omega); (try have hn1_r_1 : wr.heap.size + 1 ≠ w1.heap.size := by omega); (try have hm1_r_1 : w1.heap.size ≠ wr.heap.size + 1 := by omega); (try have hy1_r_2 : wr.heap.size + 1 + 1 < w1.heap.size := by omega); (try have hp1_r_1 : wr.heap.size < w1.heap.size + 1 := by omega); (try have hp1_r_2 : wr.heap.size < w1.heap.size + 1 + 1 := by omega); (try have hy1_0_0 : w.heap.size < w1.heap.size := by omega); (try have hn1_0_0 : w.heap.size ≠ w1.heap.size := by omega); (try have hm1_0_0 : w1.heap.size ≠ w.heap.size := by omega); (try have hy1_0_1 : w.heap.size + 1 < w1.heap.size := by omega); (try have hn1_0_1 : w.heap.size + 1 ≠ w1.heap.size := by omega); (try have hm1_0_1 : w1.heap.size ≠ w.heap.size + 1 := by omega); (try have hy1_0_2 : w.heap.size + 1 + 1 < w1.heap.size := by omega); (try have hp1_0_1 : w.heap.size < w1.heap.size + 1 := by omega); (try have hp1_0_2 : w.heap.size < w1.heap.size + 1 + 1 := by omega); (try have hg1_g1 : g1 < w1.heap.size := by omega); (try have hi1_g1 : g1 ≠ w1.heap.size := by omega); (try have hj1_g1 : w1.heap.size ≠ g1 := by omega); (try have hk1_g1 : g1 < w1.heap.size + 1 := by omega); (try have hg1_g2 : g2 < w1.heap.size := by omega); (try have hi1_g2 : g2 ≠ w1.heap.size := by omega); (try have hj1_g2 : w1.heap.size ≠ g2 := by omega); (try have hk1_g2 : g2 < w1.heap.size + 1 := by omega))
        all_goals
          go_ret
          exact ⟨ret_bool (by rw [good_of_red (by omega) (by omega) Hr.out]; simp [*]), by (repeat' (first | (with_reducible exact Below.refl _ _) | (with_reducible assumption) | (with_reducible refine Below.drew ?_) | (with_reducible refine belowDrewN ?_ _) | (with_reducible refine Below.alloc ?_ ?_ _) | (with_reducible refine Below.setCell ?_ ?_ _) | (with_reducible refine belowStep (by assumption) ?_ ?_) | (with_reducible exact Below.size (by assumption)) | go_size))⟩

theorem l1In_yes (n lo hi : Int) (w : World) (h1 : lo ≤ n) (h2 : n ≤ hi) :
    Calls Try.prog 84 #[.int .i64 n, .int .i64 lo, .int .i64 hi] w (RetQ (.bool true) w) := by
  go_enter Try.func84, Try.ntmps84
  go_wp2
  go_ret
  exact ⟨rfl, 0, rfl⟩
theorem l1In_no (n lo hi : Int) (w : World) (h1 : ¬ (lo ≤ n ∧ n ≤ hi)) :
    Calls Try.prog 84 #[.int .i64 n, .int .i64 lo, .int .i64 hi] w (RetQ (.bool false) w) := by
  by_cases h : lo ≤ n
  · have h2 : hi < n := by omega
    clear h1
    go_enter Try.func84, Try.ntmps84
    go_wp2
    go_ret
    exact ⟨ret_bool (by simp; omega), 0, rfl⟩
  · clear h1
    go_enter Try.func84, Try.ntmps84
    go_wp2
    go_ret
    exact ⟨rfl, 0, rfl⟩

set_option maxHeartbeats 400000 in
theorem unGood_any (n d : Int) (w : World) :
    Calls Try.prog 58 #[.agg #[.int .i64 n, .int .i64 d]] w (Ret (.bool (goodB n d)) w) := by
  by_cases h1 : 0 ≤ n ∧ n ≤ 1000000000
  · by_cases h2 : 1 ≤ d ∧ d ≤ 1000000000
    · obtain ⟨h1, h1'⟩ := h1
      obtain ⟨h2, h2'⟩ := h2
      by_cases hg : gcdI n d = 1
      · have HB := Lib.hid ((goodB_iff n d).2 ⟨h1, h1', h2, h2', hg⟩)
        have hgb : (gcdI n d == 1) = true := by simp [hg]
        clear hg
        go_enter Try.func58, Try.ntmps58
        go_wp2_with (first | (go_at_call 84; refine (l1In_yes _ _ _ _ (by omega) (by omega)).mono ?_; rintro e w1 ⟨rfl, k1, rfl⟩) | (go_at_call 104; refine (unGcd_any _ _ _ (by omega) (by omega) (by omega) (by omega)).mono ?_; rintro e w1 ⟨rfl, k3, rfl⟩))
        go_ret
        exact ⟨ret_bool HB.out.symm, by (repeat' (first | (with_reducible exact Below.refl _ _) | (with_reducible assumption) | (with_reducible refine Below.drew ?_) | (with_reducible refine belowDrewN ?_ _) | (with_reducible refine Below.alloc ?_ ?_ _) | (with_reducible refine Below.setCell ?_ ?_ _) | (with_reducible refine belowStep (by assumption) ?_ ?_) | (with_reducible exact Below.size (by assumption)) | go_size))⟩
      · have HB := Lib.hid (goodB_not (n := n) (d := d) (fun h => hg h.2.2.2.2))
        have hgb : (gcdI n d == 1) = false := by simp [hg]
        clear hg
        go_enter Try.func58, Try.ntmps58
        go_wp2_with (first | (go_at_call 84; refine (l1In_yes _ _ _ _ (by omega) (by omega)).mono ?_; rintro e w1 ⟨rfl, k1, rfl⟩) | (go_at_call 104; refine (unGcd_any _ _ _ (by omega) (by omega) (by omega) (by omega)).mono ?_; rintro e w1 ⟨rfl, k3, rfl⟩))
        go_ret
        exact ⟨ret_bool HB.out.symm, by (repeat' (first | (with_reducible exact Below.refl _ _) | (with_reducible assumption) | (with_reducible refine Below.drew ?_) | (with_reducible refine belowDrewN ?_ _) | (with_reducible refine Below.alloc ?_ ?_ _) | (with_reducible refine Below.setCell ?_ ?_ _) | (with_reducible refine belowStep (by assumption) ?_ ?_) | (with_reducible exact Below.size (by assumption)) | go_size))⟩
    · have HB := Lib.hid (goodB_not (n := n) (d := d) (by omega))
      go_enter Try.func58, Try.ntmps58
      go_wp2_with (first | (go_at_call 84; refine (l1In_yes _ _ _ _ (by omega) (by omega)).mono ?_; rintro e w1 ⟨rfl, k1, rfl⟩) | (go_at_call 84; refine (l1In_no _ _ _ _ (by omega)).mono ?_; rintro e w1 ⟨rfl, k1, rfl⟩))
      go_ret
      exact ⟨ret_bool HB.out.symm, by (repeat' (first | (with_reducible exact Below.refl _ _) | (with_reducible assumption) | (with_reducible refine Below.drew ?_) | (with_reducible refine belowDrewN ?_ _) | (with_reducible refine Below.alloc ?_ ?_ _) | (with_reducible refine Below.setCell ?_ ?_ _) | (with_reducible refine belowStep (by assumption) ?_ ?_) | (with_reducible exact Below.size (by assumption)) | go_size))⟩
  · have HB := Lib.hid (goodB_not (n := n) (d := d) (by omega))
    go_enter Try.func58, Try.ntmps58
    go_wp2_with (go_at_call 84; refine (l1In_no _ _ _ _ (by omega)).mono ?_; rintro e w1 ⟨rfl, k1, rfl⟩)
    go_ret
    exact ⟨ret_bool HB.out.symm, by (repeat' (first | (with_reducible exact Below.refl _ _) | (with_reducible assumption) | (with_reducible refine Below.drew ?_) | (with_reducible refine belowDrewN ?_ _) | (with_reducible refine Below.alloc ?_ ?_ _) | (with_reducible refine Below.setCell ?_ ?_ _) | (with_reducible refine belowStep (by assumption) ?_ ?_) | (with_reducible exact Below.size (by assumption)) | go_size))⟩
end Go.Proofs.Ythkchhjidihkpab


/-
  Contracts of a number's divisors and their sum, in the program and in the model.
-/
namespace Go.Proofs.Ythkchhjidihkpab
open Go.RowKit
/-- a number of this chapter -/
def numB (n : Int) : Bool := decide (1 ≤ n) && decide (n ≤ 2000)
theorem numB_iff (n : Int) : numB n = true ↔ 1 ≤ n ∧ n ≤ 2000 := by simp [numB]
theorem numB_nat {n : Int} (h : numB n = true) : ∃ N : Nat, n = (N : Int) ∧ 1 ≤ N ∧ N ≤ 2000 := by
  obtain ⟨h1, h2⟩ := (numB_iff n).1 h
  exact ⟨n.toNat, by omega, by omega, by omega⟩
theorem numB_of {N : Nat} (h1 : 1 ≤ N) (h2 : N ≤ 2000) : numB (N : Int) = true := (numB_iff _).2 ⟨by omega, by omega⟩
def ints (l : List Nat) : List Int := l.map (fun x : Nat => (x : Int))
theorem ints_len (l : List Nat) : (ints l).length = l.length := List.length_map ..
theorem ints_app (l m : List Nat) : ints (l ++ m) = ints l ++ ints m := List.map_append
theorem ints_at {l : List Nat} {i : Nat} {x : Int} (h : (ints l)[i]? = some x) : ∃ d : Nat, x = (d : Int) ∧ l[i]? = some d := by
  unfold ints at h
  rw [List.getElem?_map] at h
  cases hl : l[i]? with
  | none => rw [hl] at h; cases h
  | some d => rw [hl] at h; exact ⟨d, by injection h with h; exact h.symm, rfl⟩
/-- the divisors up to k, increasing -/
def asc (n k : Nat) : List Nat := (dsc n k).reverse
theorem asc_yes {n k : Nat} (h : n % (k + 1) = 0) : asc n (k + 1) = asc n k ++ [k + 1] := by unfold asc; rw [dsc_yes h, List.reverse_cons]
theorem asc_no {n k : Nat} (h : n % (k + 1) ≠ 0) : asc n (k + 1) = asc n k := by unfold asc; rw [dsc_no h]
theorem asc_len (n k : Nat) : (asc n k).length ≤ k := by unfold asc; rw [List.length_reverse]; exact dsc_len n k
theorem asc_mem {n k d : Nat} : d ∈ asc n k ↔ d ∈ dsc n k := by unfold asc; exact List.mem_reverse
def dvO (n : Int) : Option (List Nat) := if numB n = true then some (asc n.toNat n.toNat) else none
theorem dvO_yes {N : Nat} (h : numB (N : Int) = true) : dvO (N : Int) = some (asc N N) := by unfold dvO; rw [if_pos h]; rfl
theorem dvO_no {n : Int} (h : numB n = false) : dvO n = none := by unfold dvO; rw [h]; rfl
theorem dvO_len (n : Int) : ((dvO n).getD []).length ≤ 2000 := by
  unfold dvO
  split
  · rename_i h
    have := (numB_iff n).1 h
    have h2 := asc_len n.toNat n.toNat
    rw [Option.getD_some]
    omega
  · simp
/-- the tests on remainders, as the walks write them -/
theorem rem_yes {n k : Nat} (h : n % (k + 1) = 0) : (((n : Int) % ((k : Int) + 1) == 0) = true) ∧ (((n : Int).tmod ((k : Int) + 1) == 0) = true) := by
  have e : (n : Int) % ((k : Int) + 1) = 0 := by
    have : ((n % (k + 1) : Nat) : Int) = 0 := by rw [h]; rfl
    rw [Int.natCast_emod] at this
    exact this
  refine ⟨by simp [e], ?_⟩
  rw [Int.tmod_eq_emod_of_nonneg (by omega)]
  simp [e]
theorem rem_no {n k : Nat} (h : n % (k + 1) ≠ 0) : (((n : Int) % ((k : Int) + 1) == 0) = false) ∧ (((n : Int).tmod ((k : Int) + 1) == 0) = false) := by
  have e : ¬ (n : Int) % ((k : Int) + 1) = 0 := fun e => h (by
    have : ((n % (k + 1) : Nat) : Int) = 0 := by rw [Int.natCast_emod]; exact e
    omega)
  refine ⟨by simp [e], ?_⟩
  rw [Int.tmod_eq_emod_of_nonneg (by omega)]
  simp [e]
theorem isNumber_any (n : Int) (w : World) : Calls Try.prog 112 #[.int .i64 n] w (RetQ (.bool (numB n)) w) := by
  by_cases h : 1 ≤ n ∧ n ≤ 2000
  · have E := Lib.hid ((numB_iff n).2 h)
    obtain ⟨h1, h2⟩ := h
    go_enter Try.func112, Try.ntmps112
    go_wp2
    go_ret
    exact ⟨ret_bool E.out.symm, 0, rfl⟩
  · have E : Hid (numB n = false) := Lib.hid (by simp [numB]; omega)
    by_cases h1 : 1 ≤ n
    · have h2 : ¬ n ≤ 2000 := fun h2 => h ⟨h1, h2⟩
      go_enter Try.func112, Try.ntmps112
      go_wp2
      go_ret
      exact ⟨ret_bool E.out.symm, 0, rfl⟩
    · clear h
      go_enter Try.func112, Try.ntmps112
      go_wp2
      go_ret
      exact ⟨ret_bool E.out.symm, 0, rfl⟩
theorem prNumber_any (n : Int) (w : World) : Calls Try.prog 60 #[.int .i64 n] w (RetQ (.bool (numB n)) w) := by
  by_cases h : 1 ≤ n ∧ n ≤ 2000
  · have E := Lib.hid ((numB_iff n).2 h)
    obtain ⟨h1, h2⟩ := h
    go_enter Try.func60, Try.ntmps60
    go_wp2_with fail
    refine (l1In_yes _ _ _ _ h1 h2).mono ?_; rintro e w1 ⟨rfl, k1, rfl⟩
    go_wp2
    go_ret
    exact ⟨ret_bool E.out.symm, _, rfl⟩
  · have E : Hid (numB n = false) := Lib.hid (by simp [numB]; omega)
    go_enter Try.func60, Try.ntmps60
    go_wp2_with fail
    refine (l1In_no _ _ _ _ h).mono ?_; rintro e w1 ⟨rfl, k1, rfl⟩
    go_wp2
    go_ret
    exact ⟨ret_bool E.out.symm, _, rfl⟩
set_option maxHeartbeats 2000000 in
theorem prDivisors_any (N : Nat) (w : World) (h2 : N ≤ 2000) : Calls Try.prog 100 #[.int .i64 (N : Int)] w (RetL (ints (asc N N)) w) := by
  go_enter Try.func100, Try.ntmps100
  go_wp2
  go_loopw [3, 4] (fun v3 v4 wr => ∃ k : Nat, k ≤ N ∧ v4 = .int .i64 ((k : Int) + 1) ∧ OwnI wr w.heap.size v3 (ints (asc N k)) ∧ Below w.heap.size w wr) (fun _ v4 _ => N + 1 - (intOf v4).toNat)
  case atStart => exact ⟨0, Nat.zero_le _, rfl, OwnI.empty _ _, by (repeat' (first | (with_reducible exact Below.refl _ _) | (with_reducible assumption) | (with_reducible refine Below.drew ?_) | (with_reducible refine belowDrewN ?_ _) | (with_reducible refine Below.alloc ?_ ?_ _) | (with_reducible refine Below.setCell ?_ ?_ _) | (with_reducible refine belowStep (by assumption) ?_ ?_) | (with_reducible exact Below.size (by assumption)) | go_size))⟩
  case round =>
    obtain ⟨k, hk, rfl, ho, hbr⟩ := hrel
    have hzr := hbr.size
    have hl := asc_len N k
    rw [← ints_len] at hl
    have Ho := Lib.hid ho
    clear ho
    by_cases hlt : k < N
    · have hlt' : (k : Int) + 1 ≤ (N : Int) := by omega
      have hne : (k : Int) + 1 ≠ 0 := by omega
      by_cases hm : N % (k + 1) = 0
      · obtain ⟨e1, e2⟩ := rem_yes hm
        have E := Lib.hid (asc_yes hm)
        clear hm
        go_wp2_with (at_builtin; refine wpList_app _ (o := ⟨some 17, _, _, _, _, _⟩) (ys := [(k : Int) + 1]) rfl _ _ rfl rfl (OwnI.below Ho.out ((Below.refl _ _).alloc (Nat.le_refl _) _)) (1) (1) (by first | (simp; done) | (simp; omega)) rfl (Reads.one _ ((k : Int) + 1)) (by (try simp only [List.length_nil, List.length_cons]); omega) (by first | exact Nat.le_refl _ | ((try simp only [World.size_alloc]); omega)) ?_; intro v3 w3 ho3 hb3 hg3 ht3; clear hg3 ht3; have hz3 := hb3.size; (try simp only [World.size_alloc] at hz3))
        go_roundw
        case rel => exact ⟨k + 1, by omega, by go_num, by rw [E.out, ints_app]; exact ho3, by (repeat' (first | (with_reducible exact Below.refl _ _) | (with_reducible assumption) | (with_reducible refine Below.drew ?_) | (with_reducible refine belowDrewN ?_ _) | (with_reducible refine Below.alloc ?_ ?_ _) | (with_reducible refine Below.setCell ?_ ?_ _) | (with_reducible refine belowStep (by assumption) ?_ ?_) | (with_reducible exact Below.size (by assumption)) | go_size))⟩
        case measure => simp [intOf]; omega
      · obtain ⟨e1, e2⟩ := rem_no hm
        have E := Lib.hid (asc_no hm)
        clear hm
        go_wp2
        go_roundw
        case rel => exact ⟨k + 1, by omega, by go_num, by rw [E.out]; exact Ho.out, by (repeat' (first | (with_reducible exact Below.refl _ _) | (with_reducible assumption) | (with_reducible refine Below.drew ?_) | (with_reducible refine belowDrewN ?_ _) | (with_reducible refine Below.alloc ?_ ?_ _) | (with_reducible refine Below.setCell ?_ ?_ _) | (with_reducible refine belowStep (by assumption) ?_ ?_) | (with_reducible exact Below.size (by assumption)) | go_size))⟩
        case measure => simp [intOf]; omega
    · obtain rfl : k = N := by omega
      go_wp2
      go_ret
      exact ⟨_, rfl, Ho.out, hbr⟩
set_option maxHeartbeats 2000000 in
theorem divisorsOf_any (n : Int) (w : World) : Calls Try.prog 160 #[.int .i64 n] w (RetLB (ints ((dvO n).getD [])) (dvO n).isSome w) := by
  cases hn : numB n with
  | false =>
    have E := Lib.hid (dvO_no hn)
    have HN : Hid (∀ w, Calls Try.prog 112 #[.int .i64 n] w (RetQ (.bool false) w)) := Lib.hid fun w => by have := isNumber_any n w; rwa [hn] at this
    clear hn
    go_enter Try.func160, Try.ntmps160
    go_wp2_with fail
    refine (HN.out _).mono ?_; rintro e w1 ⟨rfl, k1, rfl⟩
    go_wp2
    go_ret2
    rw [E.out]
    exact ⟨_, rfl, OwnI.empty _ _, by (repeat' (first | (with_reducible exact Below.refl _ _) | (with_reducible assumption) | (with_reducible refine Below.drew ?_) | (with_reducible refine belowDrewN ?_ _) | (with_reducible refine Below.alloc ?_ ?_ _) | (with_reducible refine Below.setCell ?_ ?_ _) | (with_reducible refine belowStep (by assumption) ?_ ?_) | (with_reducible exact Below.size (by assumption)) | go_size))⟩
  | true =>
    obtain ⟨N, rfl, h1, h2⟩ := numB_nat hn
    have E := Lib.hid (dvO_yes hn)
    have HN : Hid (∀ w, Calls Try.prog 112 #[.int .i64 (N : Int)] w (RetQ (.bool true) w)) := Lib.hid fun w => by have := isNumber_any (N : Int) w; rwa [hn] at this
    clear hn
    go_enter Try.func160, Try.ntmps160
    go_wp2_with fail
    refine (HN.out _).mono ?_; rintro e w1 ⟨rfl, k1, rfl⟩
    go_wp2
    go_loopw [4, 5] (fun v3 v4 wr => ∃ k : Nat, k ≤ N ∧ v4 = .int .i64 ((k : Int) + 1) ∧ OwnI wr w.heap.size v3 (ints (asc N k)) ∧ Below w.heap.size w wr) (fun _ v4 _ => N + 1 - (intOf v4).toNat)
    case atStart => exact ⟨0, Nat.zero_le _, rfl, OwnI.zero _ _ (Nat.le_refl _), by (repeat' (first | (with_reducible exact Below.refl _ _) | (with_reducible assumption) | (with_reducible refine Below.drew ?_) | (with_reducible refine belowDrewN ?_ _) | (with_reducible refine Below.alloc ?_ ?_ _) | (with_reducible refine Below.setCell ?_ ?_ _) | (with_reducible refine belowStep (by assumption) ?_ ?_) | (with_reducible exact Below.size (by assumption)) | go_size))⟩
    case round =>
      obtain ⟨k, hk, rfl, ho, hbr⟩ := hrel
      have hzr := hbr.size
      have hl := asc_len N k
      rw [← ints_len] at hl
      have Ho := Lib.hid ho
      clear ho
      by_cases hlt : k < N
      · have hlt' : (k : Int) + 1 ≤ (N : Int) := by omega
        have hne : (k : Int) + 1 ≠ 0 := by omega
        by_cases hm : N % (k + 1) = 0
        · obtain ⟨e1, e2⟩ := rem_yes hm
          have E := Lib.hid (asc_yes hm)
          clear hm
          go_wp2_with (at_builtin; refine wpList_app _ (o := ⟨some 22, _, _, _, _, _⟩) (ys := [(k : Int) + 1]) rfl _ _ rfl rfl (OwnI.below Ho.out ((Below.refl _ _).alloc (Nat.le_refl _) _)) (1) (1) (by first | (simp; done) | (simp; omega)) rfl (Reads.one _ ((k : Int) + 1)) (by (try simp only [List.length_nil, List.length_cons]); omega) (by first | exact Nat.le_refl _ | ((try simp only [World.size_alloc]); omega)) ?_; intro v3 w3 ho3 hb3 hg3 ht3; clear hg3 ht3; have hz3 := hb3.size; (try simp only [World.size_alloc] at hz3))
          go_roundw
          case rel => exact ⟨k + 1, by omega, by go_num, by rw [E.out, ints_app]; exact ho3, by (repeat' (first | (with_reducible exact Below.refl _ _) | (with_reducible assumption) | (with_reducible refine Below.drew ?_) | (with_reducible refine belowDrewN ?_ _) | (with_reducible refine Below.alloc ?_ ?_ _) | (with_reducible refine Below.setCell ?_ ?_ _) | (with_reducible refine belowStep (by assumption) ?_ ?_) | (with_reducible exact Below.size (by assumption)) | go_size))⟩
          case measure => simp [intOf]; omega
        · obtain ⟨e1, e2⟩ := rem_no hm
          have E := Lib.hid (asc_no hm)
          clear hm
          go_wp2
          go_roundw
          case rel => exact ⟨k + 1, by omega, by go_num, by rw [E.out]; exact Ho.out, by (repeat' (first | (with_reducible exact Below.refl _ _) | (with_reducible assumption) | (with_reducible refine Below.drew ?_) | (with_reducible refine belowDrewN ?_ _) | (with_reducible refine Below.alloc ?_ ?_ _) | (with_reducible refine Below.setCell ?_ ?_ _) | (with_reducible refine belowStep (by assumption) ?_ ?_) | (with_reducible exact Below.size (by assumption)) | go_size))⟩
          case measure => simp [intOf]; omega
      · obtain rfl : k = N := by omega
        go_wp2
        go_ret2
        rw [E.out]
        exact ⟨_, rfl, Ho.out, hbr⟩
end Go.Proofs.Ythkchhjidihkpab


/-
  Contracts of the sum of a number's divisors, in the program and in the model.
-/
namespace Go.Proofs.Ythkchhjidihkpab
open Go.RowKit
theorem sum_take {l : List Nat} {k d : Nat} (h : l[k]? = some d) : (l.take (k + 1)).sum = (l.take k).sum + d := by
  rw [List.take_add_one, h, List.sum_append]
  simp
theorem sum_take_le {l : List Nat} (h : ∀ d ∈ l, d ≤ 2000) : ∀ k, (l.take k).sum ≤ 2000 * k
  | 0 => by simp
  | k + 1 => by
    have ih := sum_take_le h k
    cases hl : l[k]? with
    | none => rw [List.take_add_one, hl]; simp; omega
    | some d => rw [sum_take hl]; have := h d (List.mem_of_getElem? hl); omega
theorem asc_sum (N : Nat) : (asc N N).sum = sig N := (List.reverse_perm (dsc N N)).sum_nat
theorem asc_small {N : Nat} (h : N ≤ 2000) : ∀ d ∈ asc N N, d ≤ 2000 := fun d hd => by
  have := ((dsc_mem N N d).1 (asc_mem.1 hd)).2.1
  omega
theorem sig_small {N : Nat} (h : N ≤ 2000) : sig N ≤ 4000000 := by
  have h1 := sum_take_le (asc_small h) (asc N N).length
  rw [List.take_length, asc_sum] at h1
  have := asc_len N N
  omega
def sgR (n : Int) : Int := if numB n = true then (sig n.toNat : Int) else 0
theorem sgR_yes {N : Nat} (h : numB (N : Int) = true) : sgR (N : Int) = (sig N : Int) := by unfold sgR; rw [if_pos h]; rfl
theorem sgR_no {n : Int} (h : numB n = false) : sgR n = 0 := by unfold sgR; rw [h]; rfl
set_option maxHeartbeats 2000000 in
theorem prSum_any (N : Nat) (w : World) (h2 : N ≤ 2000) : Calls Try.prog 110 #[.int .i64 (N : Int)] w (Ret (.int .i64 (sig N : Int)) w) := by
  have hs := asc_small h2
  have HS := Lib.hid hs
  have hl := asc_len N N
  have ES := Lib.hid (asc_sum N)
  clear hs
  go_enter Try.func110, Try.ntmps110
  go_wp2_with fail
  refine (prDivisors_any N _ h2).mono ?_; rintro e w2 ⟨v2, rfl, ho2, hb2⟩; obtain ⟨A2, c2, rfl, hr2⟩ := ho2.form
  have HR := Lib.hid hr2
  have hz2 := hb2.size
  clear hr2 ho2
  have hle := ints_len (asc N N)
  generalize asc N N = ds at *
  go_wp2
  go_loopw [3, 9] (fun v3 v9 wr => ∃ k : Nat, k ≤ ds.length ∧ v9 = .int .i64 (k : Int) ∧ v3 = .int .i64 ((ds.take k).sum : Nat) ∧ ∃ m, wr = w2.drewN m) (fun _ v9 _ => ds.length - (intOf v9).toNat)
  case atStart => exact ⟨0, Nat.zero_le _, rfl, by simp, 0, rfl⟩
  case round =>
    obtain ⟨k, hk, rfl, rfl, m, rfl⟩ := hrel
    by_cases hlt : k < ds.length
    · obtain ⟨b, o, x, rfl, hbb, hx, hcell⟩ := (HR.out.drewN m).at_ (show k < (ints ds).length by omega)
      obtain ⟨d, rfl, hd⟩ := ints_at hx
      have hlt' : (k : Int) < (ds.length : Int) := by omega
      have hlt2 : (k : Int) < ((ints ds).length : Int) := by omega
      have E := Lib.hid (sum_take hd)
      have hd2 := HS.out d (List.mem_of_getElem? hd)
      have ht := sum_take_le HS.out k
      clear hx hd
      go_wp2
      go_roundw
      case rel => exact ⟨k + 1, by omega, by go_num, by rw [E.out]; go_num, m, rfl⟩
      case measure => simp [intOf]; omega
    · obtain rfl : k = ds.length := by omega
      have hlt2 : ¬ (ds.length : Int) < ((ints ds).length : Int) := by omega
      rw [List.take_length] at *
      go_wp2
      go_ret
      rw [ES.out]
      exact ⟨rfl, by (repeat' (first | (with_reducible exact Below.refl _ _) | (with_reducible assumption) | (with_reducible refine Below.drew ?_) | (with_reducible refine belowDrewN ?_ _) | (with_reducible refine Below.alloc ?_ ?_ _) | (with_reducible refine Below.setCell ?_ ?_ _) | (with_reducible refine belowStep (by assumption) ?_ ?_) | (with_reducible exact Below.size (by assumption)) | go_size))⟩
set_option maxHeartbeats 2000000 in
theorem divisorSum_any (n : Int) (w : World) : Calls Try.prog 159 #[.int .i64 n] w (Ret (.tuple #[.int .i64 (sgR n), .bool (numB n)]) w) := by
  cases hn : numB n with
  | false =>
    have E := Lib.hid (sgR_no hn)
    have E2 : Hid (∀ w, Calls Try.prog 160 #[.int .i64 n] w (RetLB [] false w)) := Lib.hid fun w => by have := divisorsOf_any n w; rwa [dvO_no hn] at this
    clear hn
    go_enter Try.func159, Try.ntmps159
    go_wp2_with fail
    refine (E2.out _).mono ?_; rintro e w2 ⟨v2, rfl, ho2, hb2⟩; obtain ⟨A2, c2, rfl, hr2⟩ := ho2.form
    go_wp2
    go_loopw [6, 16] (fun v6 v16 wr => v16 = .int .i64 0 ∧ v6 = .int .i64 0 ∧ ∃ m, wr = w2.drewN m) (fun _ _ _ => 0)
    case atStart => exact ⟨rfl, rfl, 0, rfl⟩
    case round =>
      obtain ⟨rfl, rfl, m, rfl⟩ := hrel
      go_wp2
      go_ret2
      rw [E.out]
      exact ⟨rfl, by (repeat' (first | (with_reducible exact Below.refl _ _) | (with_reducible assumption) | (with_reducible refine Below.drew ?_) | (with_reducible refine belowDrewN ?_ _) | (with_reducible refine Below.alloc ?_ ?_ _) | (with_reducible refine Below.setCell ?_ ?_ _) | (with_reducible refine belowStep (by assumption) ?_ ?_) | (with_reducible exact Below.size (by assumption)) | go_size))⟩
  | true =>
    obtain ⟨N, rfl, h1, h2⟩ := numB_nat hn
    have E := Lib.hid (sgR_yes hn)
    have E2 : Hid (∀ w, Calls Try.prog 160 #[.int .i64 (N : Int)] w (RetLB (ints (asc N N)) true w)) := Lib.hid fun w => by have := divisorsOf_any (N : Int) w; rwa [dvO_yes hn] at this
    have hs := asc_small h2
    have HS := Lib.hid hs
    have hl := asc_len N N
    have ES := Lib.hid (asc_sum N)
    clear hs hn
    go_enter Try.func159, Try.ntmps159
    go_wp2_with fail
    refine (E2.out _).mono ?_; rintro e w2 ⟨v2, rfl, ho2, hb2⟩; obtain ⟨A2, c2, rfl, hr2⟩ := ho2.form
    have HR := Lib.hid hr2
    have hz2 := hb2.size
    clear hr2 ho2 E2
    have hle := ints_len (asc N N)
    generalize asc N N = ds at *
    go_wp2
    go_loopw [6, 16] (fun v3 v9 wr => ∃ k : Nat, k ≤ ds.length ∧ v9 = .int .i64 (k : Int) ∧ v3 = .int .i64 ((ds.take k).sum : Nat) ∧ ∃ m, wr = w2.drewN m) (fun _ v9 _ => ds.length - (intOf v9).toNat)
    case atStart => exact ⟨0, Nat.zero_le _, rfl, by simp, 0, rfl⟩
    case round =>
      obtain ⟨k, hk, rfl, rfl, m, rfl⟩ := hrel
      by_cases hlt : k < ds.length
      · obtain ⟨b, o, x, rfl, hbb, hx, hcell⟩ := (HR.out.drewN m).at_ (show k < (ints ds).length by omega)
        obtain ⟨d, rfl, hd⟩ := ints_at hx
        have hlt' : (k : Int) < (ds.length : Int) := by omega
        have hlt2 : (k : Int) < ((ints ds).length : Int) := by omega
        have E := Lib.hid (sum_take hd)
        have hd2 := HS.out d (List.mem_of_getElem? hd)
        have ht := sum_take_le HS.out k
        clear hx hd
        go_wp2
        go_roundw
        case rel => exact ⟨k + 1, by omega, by go_num, by rw [E.out]; go_num, m, rfl⟩
        case measure => simp [intOf]; omega
      · obtain rfl : k = ds.length := by omega
        have hlt2 : ¬ (ds.length : Int) < ((ints ds).length : Int) := by omega
        rw [List.take_length] at *
        go_wp2
        go_ret2
        rw [E.out, ES.out]
        exact ⟨rfl, by (repeat' (first | (with_reducible exact Below.refl _ _) | (with_reducible assumption) | (with_reducible refine Below.drew ?_) | (with_reducible refine belowDrewN ?_ _) | (with_reducible refine Below.alloc ?_ ?_ _) | (with_reducible refine Below.setCell ?_ ?_ _) | (with_reducible refine belowStep (by assumption) ?_ ?_) | (with_reducible exact Below.size (by assumption)) | go_size))⟩
end Go.Proofs.Ythkchhjidihkpab
