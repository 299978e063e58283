
/-
  Contracts of Sylvester's numbers and of what they leave of 1.
-/
import Derived.Test.YtbjblkfibinenacSum
import Derived.Test.YtbjblkfibinenacOrder
import Derived.Test.YtbjblkfibinenacSylP
namespace Go.Proofs.Ytbjblkfibinenac
open Go.RowKit
set_option maxHeartbeats 2000000 in
theorem grSyl_any (k : Nat) (w : World) (hk : k ≤ 5) : Calls Try.prog 79 #[.int .i64 k] w (RetQ (.int .i64 (syl k)) w) := by
  go_enter Try.func79, Try.ntmps79
  go_wp2
  go_loopw [0, 3] (fun v0 v3 wr => ∃ j : Nat, j ≤ k ∧ v0 = .int .i64 ((k - j : Nat) : Int) ∧ v3 = .int .i64 (syl j) ∧ ∃ n, wr = w.drewN n) (fun v0 _ _ => (intOf v0).toNat)
  case atStart => exact ⟨0, by omega, rfl, rfl, 0, rfl⟩
  case round =>
    obtain ⟨j, hj, rfl, rfl, n, rfl⟩ := hrel
    by_cases hlt : j < k
    · have h0 : (0 : Int) < ((k - j : Nat) : Int) := by omega
      have hp := syl_prod j (by omega)
      have h2 := syl_two j
      have h3 := syl_small j (by omega)
      have E := Lib.hid (syl_next j)
      generalize syl j = d at *
      go_wp2
      go_roundw
      case rel => exact ⟨j + 1, by omega, by go_num, by rw [E.out], n, rfl⟩
      case measure => simp [intOf]; omega
    · obtain rfl : j = k := by omega
      have h0 : ((j - j : Nat) : Int) = 0 := by omega
      rw [h0]
      go_wp2
      go_ret
      exact ⟨rfl, n, rfl⟩
theorem spec_sylTerm_any (k : Int) (w : World) : Calls Try.prog 42 #[.int .i64 k] w (RetQ (.tuple #[.int .i64 (sylN k), .bool (sylB k)]) w) := by
  by_cases h : 0 ≤ k ∧ k ≤ 5
  · obtain ⟨j, rfl⟩ := Int.eq_ofNat_of_zero_le h.1
    have E : Hid (sylN (j : Int) = syl j ∧ sylB (j : Int) = true) := Lib.hid ⟨by rw [sylN, if_pos h]; rfl, by simp [sylB, h.1, h.2]⟩
    have hj : j ≤ 5 := by omega
    obtain ⟨h1, h2⟩ := h
    go_enter Try.func42, Try.ntmps42
    go_wp2_with fail
    refine (l1In_yes _ _ _ _ h1 h2).mono ?_; rintro e w1 ⟨rfl, k1, rfl⟩
    go_wp2_with fail
    refine (grSyl_any j _ hj).mono ?_; rintro e w2 ⟨rfl, k2, rfl⟩
    go_wp2
    go_ret2
    exact ⟨ret_ib E.out.1.symm E.out.2.symm, _, rfl⟩
  · have E : Hid (sylN k = 0 ∧ sylB k = false) := Lib.hid ⟨by rw [sylN, if_neg h], by simp [sylB]; omega⟩
    go_enter Try.func42, Try.ntmps42
    go_wp2_with fail
    refine (l1In_no _ _ _ _ h).mono ?_; rintro e w1 ⟨rfl, k1, rfl⟩
    go_wp2
    go_ret2
    exact ⟨ret_ib E.out.1.symm E.out.2.symm, _, rfl⟩
set_option maxHeartbeats 2000000 in
theorem sylTerm_any (k : Int) (w : World) : Calls Try.prog 41 #[.int .i64 k] w (RetQ (.tuple #[.int .i64 (sylN k), .bool (sylB k)]) w) := by
  by_cases h : 0 ≤ k ∧ k ≤ 5
  · obtain ⟨m, rfl⟩ := Int.eq_ofNat_of_zero_le h.1
    have E : Hid (sylN (m : Int) = syl m ∧ sylB (m : Int) = true) := Lib.hid ⟨by rw [sylN, if_pos h]; rfl, by simp [sylB, h.1, h.2]⟩
    have hm : m ≤ 5 := by omega
    obtain ⟨h1, h2⟩ := h
    go_enter Try.func41, Try.ntmps41
    go_wp2
    go_loopw [4, 12] (fun v4 v12 wr => ∃ j : Nat, j ≤ m ∧ v12 = .int .i64 (j : Int) ∧ v4 = .int .i64 (syl j) ∧ ∃ n, wr = w.drewN n) (fun _ v12 _ => m - (intOf v12).toNat)
    case atStart => exact ⟨0, by omega, rfl, rfl, 0, rfl⟩
    case round =>
      obtain ⟨j, hj, rfl, rfl, n, rfl⟩ := hrel
      by_cases hlt : j < m
      · have hp := syl_prod j (by omega)
        have h2 := syl_two j
        have h3 := syl_small j (by omega)
        have E2 := Lib.hid (syl_next j)
        generalize syl j = d at *
        go_wp2
        go_roundw
        case rel => exact ⟨j + 1, by omega, by go_num, by rw [E2.out], n, rfl⟩
        case measure => simp [intOf]; omega
      · obtain rfl : j = m := by omega
        go_wp2
        go_ret2
        exact ⟨ret_ib E.out.1.symm E.out.2.symm, n, rfl⟩
  · have E : Hid (sylN k = 0 ∧ sylB k = false) := Lib.hid ⟨by rw [sylN, if_neg h], by simp [sylB]; omega⟩
    by_cases h0 : k < 0
    · go_enter Try.func41, Try.ntmps41
      go_wp2
      go_ret2
      exact ⟨ret_ib E.out.1.symm E.out.2.symm, 0, rfl⟩
    · have h5 : 5 < k := by omega
      go_enter Try.func41, Try.ntmps41
      go_wp2
      go_ret2
      exact ⟨ret_ib E.out.1.symm E.out.2.symm, 0, rfl⟩
def sylG (k : Int) : Int := if 0 ≤ k ∧ k ≤ 5 then syl k.toNat - 1 else 0
def sylU (k : Int) : Int := if 0 ≤ k ∧ k ≤ 5 then 1 else 0
theorem sylGap_any (k : Int) (w : World) : Calls Try.prog 39 #[.int .i64 k] w (Ret (.tuple #[.agg #[.int .i64 (sylU k), .int .i64 (sylG k)], .bool (sylB k)]) w) := by
  by_cases h : 0 ≤ k ∧ k ≤ 5
  · obtain ⟨m, rfl⟩ := Int.eq_ofNat_of_zero_le h.1
    have E : Hid (sylN (m : Int) = syl m ∧ sylB (m : Int) = true ∧ sylG (m : Int) = syl m - 1 ∧ sylU (m : Int) = 1) := Lib.hid ⟨by rw [sylN, if_pos h]; rfl, by simp [sylB, h.1, h.2], by rw [sylG, if_pos h]; rfl, by rw [sylU, if_pos h]⟩
    have h2 := syl_two m
    have h3 := syl_small m (by omega)
    go_enter Try.func39, Try.ntmps39
    go_wp2_with fail
    refine (sylTerm_any _ _).mono ?_; rintro e w1 ⟨rfl, k1, rfl⟩
    rw [E.out.1, E.out.2.1]
    go_wp2
    refine bodyPost_ret (by simp [results, Try.results39, go_sem, *]; try rfl) rfl ?_
    exact ⟨ret_fr E.out.2.2.2.symm E.out.2.2.1.symm E.out.2.1.symm, by (repeat' (first | (with_reducible exact Below.refl _ _) | (with_reducible assumption) | (with_reducible refine Below.drew ?_) | (with_reducible refine belowDrewN ?_ _) | (with_reducible refine Below.alloc ?_ ?_ _) | (with_reducible refine Below.setCell ?_ ?_ _) | (with_reducible refine belowStep (by assumption) ?_ ?_) | (with_reducible exact Below.size (by assumption)) | go_size))⟩
  · have E : Hid (sylN k = 0 ∧ sylB k = false ∧ sylG k = 0 ∧ sylU k = 0) := Lib.hid ⟨by rw [sylN, if_neg h], by simp [sylB]; omega, by rw [sylG, if_neg h], by rw [sylU, if_neg h]⟩
    go_enter Try.func39, Try.ntmps39
    go_wp2_with fail
    refine (sylTerm_any _ _).mono ?_; rintro e w1 ⟨rfl, k1, rfl⟩
    rw [E.out.1, E.out.2.1]
    go_wp2
    refine bodyPost_ret (by simp [results, Try.results39, go_sem, *]; try rfl) rfl ?_
    exact ⟨ret_fr E.out.2.2.2.symm E.out.2.2.1.symm E.out.2.1.symm, by (repeat' (first | (with_reducible exact Below.refl _ _) | (with_reducible assumption) | (with_reducible refine Below.drew ?_) | (with_reducible refine belowDrewN ?_ _) | (with_reducible refine Below.alloc ?_ ?_ _) | (with_reducible refine Below.setCell ?_ ?_ _) | (with_reducible refine belowStep (by assumption) ?_ ?_) | (with_reducible exact Below.size (by assumption)) | go_size))⟩
theorem good_gap (j : Nat) (h : j ≤ 5) : goodB 1 (syl j - 1) = true := good_unit (by have := syl_two j; omega) (by have := syl_small j h; omega)
theorem good_syl (j : Nat) (h : j ≤ 5) : goodB 1 (syl j) = true := good_unit (by have := syl_two j; omega) (by have := syl_small j h; omega)
set_option maxHeartbeats 4000000 in
theorem spec_sylGap_any (k : Int) (w : World) : Calls Try.prog 40 #[.int .i64 k] w (Ret (.tuple #[.agg #[.int .i64 (sylU k), .int .i64 (sylG k)], .bool (sylB k)]) w) := by
  by_cases h : 0 ≤ k ∧ k ≤ 5
  · obtain ⟨m, rfl⟩ := Int.eq_ofNat_of_zero_le h.1
    have E : Hid (sylB (m : Int) = true ∧ sylG (m : Int) = syl m - 1 ∧ sylU (m : Int) = 1) := Lib.hid ⟨by simp [sylB, h.1, h.2], by rw [sylG, if_pos h]; rfl, by rw [sylU, if_pos h]⟩
    have hm : m ≤ 5 := by omega
    obtain ⟨h1, h2⟩ := h
    have T0 := Lib.hid (TwoAt.new w 0 0 27)
    have lt02 : w.heap.size < w.heap.size + 1 + 1 := by omega
    have lt03 : w.heap.size < w.heap.size + 1 + 1 + 1 := by omega
    have ne02 : w.heap.size ≠ w.heap.size + 1 + 1 := by omega
    have ne20 : w.heap.size + 1 + 1 ≠ w.heap.size := by omega
    have ne03 : w.heap.size ≠ w.heap.size + 1 + 1 + 1 := by omega
    have ne30 : w.heap.size + 1 + 1 + 1 ≠ w.heap.size := by omega
    have lt13 : w.heap.size + 1 < w.heap.size + 1 + 1 + 1 := by omega
    go_enter Try.func40, Try.ntmps40
    go_wp2_with fail
    refine (l1In_yes _ _ _ _ h1 h2).mono ?_; rintro e w1 ⟨rfl, k1, rfl⟩
    go_wp2_with fail
    refine (unUnit_any _ _).mono ?_; rintro e w2 ⟨rfl, hb2⟩; have hz2 := hb2.size; (try simp only [World.size_alloc, World.heap_drewN] at hz2)
    have T1 := Lib.hid ((T0.out.below (by (repeat' (first | (with_reducible exact Below.refl _ _) | (with_reducible assumption) | (with_reducible refine Below.drew ?_) | (with_reducible refine belowDrewN ?_ _) | (with_reducible refine Below.alloc ?_ ?_ _) | (with_reducible refine Below.setCell ?_ ?_ _) | (with_reducible refine belowStep (by assumption) ?_ ?_) | (with_reducible exact Below.size (by assumption)) | go_size)) : Below _ _ w2)).below ((Below.refl _ _).alloc (Nat.le_refl _) (.cells #[.int .i64 1, .int .i64 1] 27)))
    have T2 := Lib.hid (TwoAt.new w2 1 1 27)
    have hw2 : w.heap.size + 1 ≤ w2.heap.size := hz2
    have hne1 : w.heap.size ≠ w2.heap.size := by omega
    have hne2 : w2.heap.size ≠ w.heap.size := by omega
    go_wp2
    go_loopw [5] (fun v5 wr => ∃ j : Nat, j ≤ m ∧ v5 = .int .i64 (j : Int) ∧ TwoAt wr w.heap.size 0 0 ∧ TwoAt wr w2.heap.size 1 (syl j - 1) ∧ Below w.heap.size w wr) (fun v5 _ => m - (intOf v5).toNat)
    case atStart => exact ⟨0, by omega, rfl, T1.out, T2.out, by (repeat' (first | (with_reducible exact Below.refl _ _) | (with_reducible assumption) | (with_reducible refine Below.drew ?_) | (with_reducible refine belowDrewN ?_ _) | (with_reducible refine Below.alloc ?_ ?_ _) | (with_reducible refine Below.setCell ?_ ?_ _) | (with_reducible refine belowStep (by assumption) ?_ ?_) | (with_reducible exact Below.size (by assumption)) | go_size))⟩
    case round =>
      obtain ⟨j, hj, rfl, ⟨c1, c2, f1, f2, z1⟩, ⟨c3, c4, f3, f4, z2⟩, hbr⟩ := hrel
      by_cases hlt : j < m
      · have HM := Lib.hid fun (w : World) => (by
          have h := unMinus_any 1 (syl j - 1) 1 (syl j) w (good_gap j (by omega)) (good_syl j (by omega)) (by omega)
          rw [(syl_gap j (by omega)).2.1, (syl_gap j (by omega)).2.2] at h
          exact h : Calls Try.prog 78 #[.agg #[.int .i64 1, .int .i64 (syl j - 1)], .agg #[.int .i64 1, .int .i64 (syl j)]] w (Ret (.agg #[.int .i64 1, .int .i64 (syl (j + 1) - 1)]) w))
        go_wp2
        go_region_with (first | (go_at_call 79; refine (grSyl_any j _ (by omega)).mono ?_; rintro e w1 ⟨rfl, k1, rfl⟩) | (go_at_call 77; refine (unUnit_any _ _).mono ?_; rintro e w3 ⟨rfl, hb3⟩; obtain ⟨hc3, hf3⟩ := bcellB hb3; have hz3 := hb3.size; (try simp only [World.heap_drewN] at hc3 hf3 hz3); (try have hy3_r_0 : wr.heap.size < w3.heap.size := by omega); (try have hn3_r_0 : wr.heap.size ≠ w3.heap.size := by omega); (try have hm3_r_0 : w3.heap.size ≠ wr.heap.size := by omega); (try have hy3_r_1 : wr.heap.size + 1 < w3.heap.size := by omega); (try have hn3_r_1 : wr.heap.size + 1 ≠ w3.heap.size := by omega); (try have hm3_r_1 : w3.heap.size ≠ wr.heap.size + 1 := by omega); (try have hy3_r_2 : wr.heap.size + 1 + 1 < w3.heap.size := by omega); (try have hp3_r_1 : wr.heap.size < w3.heap.size + 1 := by omega); (try have hp3_r_2 : wr.heap.size < w3.heap.size + 1 + 1 := by omega); (try have hy3_0_0 : w.heap.size < w3.heap.size := by omega); (try have hn3_0_0 : w.heap.size ≠ w3.heap.size := by omega); (try have hm3_0_0 : w3.heap.size ≠ w.heap.size := by omega); (try have hy3_0_1 : w.heap.size + 1 < w3.heap.size := by omega); (try have hn3_0_1 : w.heap.size + 1 ≠ w3.heap.size := by omega); (try have hm3_0_1 : w3.heap.size ≠ w.heap.size + 1 := by omega); (try have hy3_0_2 : w.heap.size + 1 + 1 < w3.heap.size := by omega); (try have hp3_0_1 : w.heap.size < w3.heap.size + 1 := by omega); (try have hp3_0_2 : w.heap.size < w3.heap.size + 1 + 1 := by omega); (try have hy3_1_0 : w1.heap.size < w3.heap.size := by omega); (try have hn3_1_0 : w1.heap.size ≠ w3.heap.size := by omega); (try have hm3_1_0 : w3.heap.size ≠ w1.heap.size := by omega); (try have hy3_1_1 : w1.heap.size + 1 < w3.heap.size := by omega); (try have hn3_1_1 : w1.heap.size + 1 ≠ w3.heap.size := by omega); (try have hm3_1_1 : w3.heap.size ≠ w1.heap.size + 1 := by omega); (try have hy3_1_2 : w1.heap.size + 1 + 1 < w3.heap.size := by omega); (try have hp3_1_1 : w1.heap.size < w3.heap.size + 1 := by omega); (try have hp3_1_2 : w1.heap.size < w3.heap.size + 1 + 1 := by omega); (try have hy3_2_0 : w2.heap.size < w3.heap.size := by omega); (try have hn3_2_0 : w2.heap.size ≠ w3.heap.size := by omega); (try have hm3_2_0 : w3.heap.size ≠ w2.heap.size := by omega); (try have hy3_2_1 : w2.heap.size + 1 < w3.heap.size := by omega); (try have hn3_2_1 : w2.heap.size + 1 ≠ w3.heap.size := by omega); (try have hm3_2_1 : w3.heap.size ≠ w2.heap.size + 1 := by omega); (try have hy3_2_2 : w2.heap.size + 1 + 1 < w3.heap.size := by omega); (try have hp3_2_1 : w2.heap.size < w3.heap.size + 1 := by omega); (try have hp3_2_2 : w2.heap.size < w3.heap.size + 1 + 1 := by omega); (try have hg3_g1 : g1 < w3.heap.size := by omega); (try have hi3_g1 : g1 ≠ w3.heap.size := by omega); (try have hj3_g1 : w3.heap.size ≠ g1 := by omega); (try have hk3_g1 : g1 < w3.heap.size + 1 := by omega); (try have hg3_g2 : g2 < w3.heap.size := by omega); (try have hi3_g2 : g2 ≠ w3.heap.size := by omega); (try have hj3_g2 : w3.heap.size ≠ g2 := by omega); (try have hk3_g2 : g2 < w3.heap.size + 1 := by omega)) | (go_at_call 78; refine (HM.out _).mono ?_; rintro e w4 ⟨rfl, hb4⟩; obtain ⟨hc4, hf4⟩ := bcellB hb4; have hz4 := hb4.size; (try simp only [World.size_alloc, World.size_setCell, World.size_drew, World.heap_drewN] at hc4 hf4 hz4); (try have hy4_r_0 : wr.heap.size < w4.heap.size := by omega); (try have hn4_r_0 : wr.heap.size ≠ w4.heap.size := by omega); (try have hm4_r_0 : w4.heap.size ≠ wr.heap.size := by omega); (try have hy4_r_1 : wr.heap.size + 1 < w4.heap.size := by omega); (try have hn4_r_1 : wr.heap.size + 1 ≠ w4.heap.size := by omega); (try have hm4_r_1 : w4.heap.size ≠ wr.heap.size + 1 := by omega); (try have hy4_r_2 : wr.heap.size + 1 + 1 < w4.heap.size := by omega); (try have hp4_r_1 : wr.heap.size < w4.heap.size + 1 := by omega); (try have hp4_r_2 : wr.heap.size < w4.heap.size + 1 + 1 := by omega); (try have hy4_0_0 : w.heap.size < w4.heap.size := by omega); (try have hn4_0_0 : w.heap.size ≠ w4.heap.size := by omega); (try have hm4_0_0 : w4.heap.size ≠ w.heap.size := by omega); (try have hy4_0_1 : w.heap.size + 1 < w4.heap.size := by omega); (try have hn4_0_1 : w.heap.size + 1 ≠ w4.heap.size := by omega); (try have hm4_0_1 : w4.heap.size ≠ w.heap.size + 1 := by omega); (try have hy4_0_2 : w.heap.size + 1 + 1 < w4.heap.size := by omega); (try have hp4_0_1 : w.heap.size < w4.heap.size + 1 := by omega); (try have hp4_0_2 : w.heap.size < w4.heap.size + 1 + 1 := by omega); (try have hy4_1_0 : w1.heap.size < w4.heap.size := by omega); (try have hn4_1_0 : w1.heap.size ≠ w4.heap.size := by omega); (try have hm4_1_0 : w4.heap.size ≠ w1.heap.size := by omega); (try have hy4_1_1 : w1.heap.size + 1 < w4.heap.size := by omega); (try have hn4_1_1 : w1.heap.size + 1 ≠ w4.heap.size := by omega); (try have hm4_1_1 : w4.heap.size ≠ w1.heap.size + 1 := by omega); (try have hy4_1_2 : w1.heap.size + 1 + 1 < w4.heap.size := by omega); (try have hp4_1_1 : w1.heap.size < w4.heap.size + 1 := by omega); (try have hp4_1_2 : w1.heap.size < w4.heap.size + 1 + 1 := by omega); (try have hy4_2_0 : w2.heap.size < w4.heap.size := by omega); (try have hn4_2_0 : w2.heap.size ≠ w4.heap.size := by omega); (try have hm4_2_0 : w4.heap.size ≠ w2.heap.size := by omega); (try have hy4_2_1 : w2.heap.size + 1 < w4.heap.size := by omega); (try have hn4_2_1 : w2.heap.size + 1 ≠ w4.heap.size := by omega); (try have hm4_2_1 : w4.heap.size ≠ w2.heap.size + 1 := by omega); (try have hy4_2_2 : w2.heap.size + 1 + 1 < w4.heap.size := by omega); (try have hp4_2_1 : w2.heap.size < w4.heap.size + 1 := by omega); (try have hp4_2_2 : w2.heap.size < w4.heap.size + 1 + 1 := by omega); (try have hy4_3_0 : w3.heap.size < w4.heap.size := by omega); (try have hn4_3_0 : w3.heap.size ≠ w4.heap.size := by omega); (try have hm4_3_0 : w4.heap.size ≠ w3.heap.size := by omega); (try have hy4_3_1 : w3.heap.size + 1 < w4.heap.size := by omega); (try have hn4_3_1 : w3.heap.size + 1 ≠ w4.heap.size := by omega); (try have hm4_3_1 : w4.heap.size ≠ w3.heap.size + 1 := by omega); (try have hy4_3_2 : w3.heap.size + 1 + 1 < w4.heap.size := by omega); (try have hp4_3_1 : w3.heap.size < w4.heap.size + 1 := by omega); (try have hp4_3_2 : w3.heap.size < w4.heap.size + 1 + 1 := by omega); (try have hg4_g1 : g1 < w4.heap.size := by omega); (try have hi4_g1 : g1 ≠ w4.heap.size := by omega); (try have hj4_g1 : w4.heap.size ≠ g1 := by omega); (try have hk4_g1 : g1 < w4.heap.size + 1 := by omega); (try have hg4_g2 : g2 < w4.heap.size := by omega); (try have hi4_g2 : g2 ≠ w4.heap.size := by omega); (try have hj4_g2 : w4.heap.size ≠ g2 := by omega); (try have hk4_g2 : g2 < w4.heap.size + 1 := by omega)))
        all_goals
          go_wp2
          go_roundw
          case rel => exact ⟨j + 1, by omega, by go_num, by (refine ⟨?_, ?_, ?_, ?_, ?_⟩ <;> first | (simp only [World.size_setCell]; omega) | (first | (simp [*, World.cell?_setCell_far]; done) | (simp [go_sem, *]; done))), by (refine ⟨?_, ?_, ?_, ?_, ?_⟩ <;> first | (simp only [World.size_setCell]; omega) | (first | (simp [*]; done) | (simp [go_sem, *]; done))), by (repeat' (first | (with_reducible exact Below.refl _ _) | (with_reducible assumption) | (with_reducible refine Below.drew ?_) | (with_reducible refine belowDrewN ?_ _) | (with_reducible refine Below.alloc ?_ ?_ _) | (with_reducible refine Below.setCell ?_ ?_ _) | (with_reducible refine belowStep (by assumption) ?_ ?_) | (with_reducible exact Below.size (by assumption)) | go_size))⟩
          case measure => simp [intOf]; omega
      · obtain rfl : j = m := by omega
        have hg := good_gap j (by omega)
        go_wp2_with fail
        refine (unIf_any _ _ _).mono ?_; rintro e w5 ⟨rfl, hb5⟩; have hz5 := hb5.size; (try simp only [World.size_alloc, World.size_setCell, World.size_drew, World.heap_drewN] at hz5)
        rw [hg]
        obtain ⟨hc5, hf5⟩ := bcellB hb5; have hz5 := hb5.size; (try simp only [World.size_alloc, World.size_setCell, World.size_drew, World.heap_drewN] at hc5 hf5 hz5); (try have hy5_r_0 : wr.heap.size < w5.heap.size := by omega); (try have hn5_r_0 : wr.heap.size ≠ w5.heap.size := by omega); (try have hm5_r_0 : w5.heap.size ≠ wr.heap.size := by omega); (try have hy5_r_1 : wr.heap.size + 1 < w5.heap.size := by omega); (try have hn5_r_1 : wr.heap.size + 1 ≠ w5.heap.size := by omega); (try have hm5_r_1 : w5.heap.size ≠ wr.heap.size + 1 := by omega); (try have hy5_r_2 : wr.heap.size + 1 + 1 < w5.heap.size := by omega); (try have hp5_r_1 : wr.heap.size < w5.heap.size + 1 := by omega); (try have hp5_r_2 : wr.heap.size < w5.heap.size + 1 + 1 := by omega); (try have hy5_0_0 : w.heap.size < w5.heap.size := by omega); (try have hn5_0_0 : w.heap.size ≠ w5.heap.size := by omega); (try have hm5_0_0 : w5.heap.size ≠ w.heap.size := by omega); (try have hy5_0_1 : w.heap.size + 1 < w5.heap.size := by omega); (try have hn5_0_1 : w.heap.size + 1 ≠ w5.heap.size := by omega); (try have hm5_0_1 : w5.heap.size ≠ w.heap.size + 1 := by omega); (try have hy5_0_2 : w.heap.size + 1 + 1 < w5.heap.size := by omega); (try have hp5_0_1 : w.heap.size < w5.heap.size + 1 := by omega); (try have hp5_0_2 : w.heap.size < w5.heap.size + 1 + 1 := by omega); (try have hy5_1_0 : w1.heap.size < w5.heap.size := by omega); (try have hn5_1_0 : w1.heap.size ≠ w5.heap.size := by omega); (try have hm5_1_0 : w5.heap.size ≠ w1.heap.size := by omega); (try have hy5_1_1 : w1.heap.size + 1 < w5.heap.size := by omega); (try have hn5_1_1 : w1.heap.size + 1 ≠ w5.heap.size := by omega); (try have hm5_1_1 : w5.heap.size ≠ w1.heap.size + 1 := by omega); (try have hy5_1_2 : w1.heap.size + 1 + 1 < w5.heap.size := by omega); (try have hp5_1_1 : w1.heap.size < w5.heap.size + 1 := by omega); (try have hp5_1_2 : w1.heap.size < w5.heap.size + 1 + 1 := by omega); (try have hy5_2_0 : w2.heap.size < w5.heap.size := by omega); (try have hn5_2_0 : w2.heap.size ≠ w5.heap.size := by omega); (try have hm5_2_0 : w5.heap.size ≠ w2.heap.size := by omega); (try have hy5_2_1 : w2.heap.size + 1 < w5.heap.size := by omega); (try have hn5_2_1 : w2.heap.size + 1 ≠ w5.heap.size := by omega); (try have hm5_2_1 : w5.heap.size ≠ w2.heap.size + 1 := by omega); (try have hy5_2_2 : w2.heap.size + 1 + 1 < w5.heap.size := by omega); (try have hp5_2_1 : w2.heap.size < w5.heap.size + 1 := by omega); (try have hp5_2_2 : w2.heap.size < w5.heap.size + 1 + 1 := by omega); (try have hy5_3_0 : w3.heap.size < w5.heap.size := by omega); (try have hn5_3_0 : w3.heap.size ≠ w5.heap.size := by omega); (try have hm5_3_0 : w5.heap.size ≠ w3.heap.size := by omega); (try have hy5_3_1 : w3.heap.size + 1 < w5.heap.size := by omega); (try have hn5_3_1 : w3.heap.size + 1 ≠ w5.heap.size := by omega); (try have hm5_3_1 : w5.heap.size ≠ w3.heap.size + 1 := by omega); (try have hy5_3_2 : w3.heap.size + 1 + 1 < w5.heap.size := by omega); (try have hp5_3_1 : w3.heap.size < w5.heap.size + 1 := by omega); (try have hp5_3_2 : w3.heap.size < w5.heap.size + 1 + 1 := by omega); (try have hy5_4_0 : w4.heap.size < w5.heap.size := by omega); (try have hn5_4_0 : w4.heap.size ≠ w5.heap.size := by omega); (try have hm5_4_0 : w5.heap.size ≠ w4.heap.size := by omega); (try have hy5_4_1 : w4.heap.size + 1 < w5.heap.size := by omega); (try have hn5_4_1 : w4.heap.size + 1 ≠ w5.heap.size := by omega); (try have hm5_4_1 : w5.heap.size ≠ w4.heap.size + 1 := by omega); (try have hy5_4_2 : w4.heap.size + 1 + 1 < w5.heap.size := by omega); (try have hp5_4_1 : w4.heap.size < w5.heap.size + 1 := by omega); (try have hp5_4_2 : w4.heap.size < w5.heap.size + 1 + 1 := by omega); (try have hg5_g1 : g1 < w5.heap.size := by omega); (try have hi5_g1 : g1 ≠ w5.heap.size := by omega); (try have hj5_g1 : w5.heap.size ≠ g1 := by omega); (try have hk5_g1 : g1 < w5.heap.size + 1 := by omega); (try have hg5_g2 : g2 < w5.heap.size := by omega); (try have hi5_g2 : g2 ≠ w5.heap.size := by omega); (try have hj5_g2 : w5.heap.size ≠ g2 := by omega); (try have hk5_g2 : g2 < w5.heap.size + 1 := by omega)
        go_wp2
        refine bodyPost_ret (by simp [results, Try.results40, go_sem, *]; try rfl) rfl ?_
        exact ⟨ret_fr E.out.2.2.symm E.out.2.1.symm E.out.1.symm, by (repeat' (first | (with_reducible exact Below.refl _ _) | (with_reducible assumption) | (with_reducible refine Below.drew ?_) | (with_reducible refine belowDrewN ?_ _) | (with_reducible refine Below.alloc ?_ ?_ _) | (with_reducible refine Below.setCell ?_ ?_ _) | (with_reducible refine belowStep (by assumption) ?_ ?_) | (with_reducible exact Below.size (by assumption)) | go_size))⟩
  · have E : Hid (sylB k = false ∧ sylG k = 0 ∧ sylU k = 0) := Lib.hid ⟨by simp [sylB]; omega, by rw [sylG, if_neg h], by rw [sylU, if_neg h]⟩
    go_enter Try.func40, Try.ntmps40
    go_wp2_with fail
    refine (l1In_no _ _ _ _ h).mono ?_; rintro e w1 ⟨rfl, k1, rfl⟩
    go_wp2
    refine bodyPost_ret (by simp [results, Try.results40, go_sem, *]; try rfl) rfl ?_
    exact ⟨ret_fr E.out.2.2.symm E.out.2.1.symm E.out.1.symm, by (repeat' (first | (with_reducible exact Below.refl _ _) | (with_reducible assumption) | (with_reducible refine Below.drew ?_) | (with_reducible refine belowDrewN ?_ _) | (with_reducible refine Below.alloc ?_ ?_ _) | (with_reducible refine Below.setCell ?_ ?_ _) | (with_reducible refine belowStep (by assumption) ?_ ?_) | (with_reducible exact Below.size (by assumption)) | go_size))⟩
end Go.Proofs.Ytbjblkfibinenac
