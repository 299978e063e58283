import Derived.Test.YtbjblkfibinenadGreatDoorPk19
import Derived.Test.YtbjblkfibinenadGreatDoorPk16
import Derived.Test.YtbjblkfibinenadGreatDoorPk1
import Derived.Test.YtbjblkfibinenadGreatDoorPk2
import Derived.Test.YtbjblkfibinenadGreatDoorPk17
import Derived.Test.YtbjblkfibinenadGreatDoorPk3

/-
  Contracts of the parts that the method by binary digits begins with.
-/
namespace Go.Proofs.YtbjblkfibinenadGreatDoor
open Go.RowKit
theorem pow_le31 {k : Nat} (h : k ≤ 31) : (2 : Int) ^ k ≤ 2147483648 := by
  have h1 := Nat.pow_le_pow_right (n := 2) (by omega) h
  have e : (2 : Int) ^ k = ((2 ^ k : Nat) : Int) := by simp
  have e2 : (2 : Nat) ^ 31 = 2147483648 := rfl
  rw [e]
  omega
/-- the relation of the loop -/
def Hv (m0 e0 : Int) (k : Nat) (m e : Int) (xs : List Int) : Prop := 0 ≤ m ∧ m < 2 ^ k ∧ k ≤ 31 ∧ 0 ≤ e ∧ e ≤ 9223372036854775807 ∧ xs.length + k ≤ 31 ∧ hvL 31 m0 e0 = xs ++ hvL k m e
theorem Hv.more {m0 e0 m e : Int} {k : Nat} {xs : List Int} (h : Hv m0 e0 k m e xs) (hm : 0 < m) : ∃ j, k = j + 1 ∧ Hv m0 e0 j (m / 2) (e / 2) (if m % 2 = 1 then xs ++ [e] else xs) := by
  obtain ⟨h1, h2, h3, h4, h5, h6, h7⟩ := h
  cases k with
  | zero => simp at h2; omega
  | succ j =>
    have hp : (2 : Int) ^ (j + 1) = 2 ^ j * 2 := Int.pow_succ _ _
    refine ⟨j, rfl, by omega, by omega, by omega, by omega, by omega, ?_, ?_⟩
    · split <;> (try simp) <;> omega
    · by_cases ho : m % 2 = 1
      · rw [if_pos ho, h7, hvL_odd hm ho, List.append_assoc]; rfl
      · rw [if_neg ho, h7, hvL_even hm ho]
theorem Hv.last {m0 e0 m e : Int} {k : Nat} {xs : List Int} (h : Hv m0 e0 k m e xs) (hm : ¬ 0 < m) : hvL 31 m0 e0 = xs := by
  rw [h.2.2.2.2.2.2, hvL_end (by omega), List.append_nil]
set_option maxHeartbeats 2000000 in
theorem halvesAt_any (m0 e0 : Int) (w : World) (hm0 : 0 ≤ m0) (hm1 : m0 < 2147483648) (he0 : 0 ≤ e0) (he1 : e0 ≤ 9223372036854775807) : Calls Tryz.prog 135 #[.int .i64 m0, .int .i64 e0] w (RetL (hvL 31 m0 e0) w) := by
  go_enter Tryz.func135, Tryz.ntmps135
  go_wp2
  go_loopw [0, 1, 5] (fun v0 v1 v5 wr => ∃ (k : Nat) (m e : Int) (xs : List Int) (A : Option Addr) (c : Nat), v0 = .int .i64 m ∧ v1 = .int .i64 e ∧ v5 = .slice A xs.length c ∧ Hv m0 e0 k m e xs ∧ OwnI wr w.heap.size (.slice A xs.length c) xs ∧ Below w.heap.size w wr) (fun v0 _ _ _ => (intOf v0).toNat)
  case atStart => exact ⟨31, m0, e0, [], _, _, rfl, rfl, rfl, ⟨hm0, by rw [pow_31]; exact hm1, Nat.le_refl _, he0, he1, by simp, rfl⟩, OwnI.zero w w.heap.size (Nat.le_refl _), by (repeat' (first | (with_reducible exact Below.refl _ _) | (with_reducible assumption) | (with_reducible refine Below.drew ?_) | (with_reducible refine belowDrewN ?_ _) | (with_reducible refine Below.alloc ?_ ?_ _) | (with_reducible refine Below.setCell ?_ ?_ _) | (with_reducible refine belowStep (by assumption) ?_ ?_) | (with_reducible exact Below.size (by assumption)) | go_size))⟩
  case round =>
    obtain ⟨k, m, e, xs, A, c, rfl, rfl, rfl, hv, ho, hbr⟩ := hrel
    have hzr := hbr.size
    have Ho := Lib.hid ho
    have Hv' := Lib.hid hv
    have b1 := hv.1
    have b2 : m < 2147483648 := by
      have h2 := hv.2.1
      have h3 := pow_le31 hv.2.2.1
      omega
    have b3 := hv.2.2.2.1
    have b4 := hv.2.2.2.2.1
    have b5 : xs.length ≤ 31 := by have := hv.2.2.2.2.2.1; omega
    clear ho hv
    by_cases hm : 0 < m
    · obtain ⟨j, _, hn⟩ := Hv'.out.more hm
      by_cases ho : m % 2 = 1
      · rw [if_pos ho] at hn
        have Hn := Lib.hid hn
        have hod : (m % 2 == 1) = true := by simp [ho]
        clear hn
        go_wp2_with (at_builtin; refine wpList_app _ (o := ⟨some 17, _, _, _, _, _⟩) (ys := [e]) rfl _ _ rfl rfl (Ho.out.below (by (repeat' (first | (with_reducible exact Below.refl _ _) | (with_reducible assumption) | (with_reducible refine Below.drew ?_) | (with_reducible refine belowDrewN ?_ _) | (with_reducible refine Below.alloc ?_ ?_ _) | (with_reducible refine Below.setCell ?_ ?_ _) | (with_reducible refine belowStep (by assumption) ?_ ?_) | (with_reducible exact Below.size (by assumption)) | go_size)))) (1) (1) (by first | (simp; done) | (simp; omega)) rfl (Reads.one _ e) (by (try simp only [List.length_nil, List.length_cons]); omega) (by first | exact Nat.le_refl _ | ((try simp only [World.size_alloc]); omega)) ?_; intro v3 w3 ho3 hb3 hg3 ht3; clear hg3 ht3; have hz3 := hb3.size; (try simp only [World.size_alloc] at hz3))
        obtain ⟨A3, c3, rfl, hr3⟩ := ho3.form
        go_roundw
        case rel => exact ⟨j, _, _, xs ++ [e], A3, c3, rfl, rfl, rfl, Hn.out, ho3, by (repeat' (first | (with_reducible exact Below.refl _ _) | (with_reducible assumption) | (with_reducible refine Below.drew ?_) | (with_reducible refine belowDrewN ?_ _) | (with_reducible refine Below.alloc ?_ ?_ _) | (with_reducible refine Below.setCell ?_ ?_ _) | (with_reducible refine belowStep (by assumption) ?_ ?_) | (with_reducible exact Below.size (by assumption)) | go_size))⟩
        case measure => simp [intOf]; omega
      · rw [if_neg ho] at hn
        have Hn := Lib.hid hn
        have hod : (m % 2 == 1) = false := by simp [ho]
        clear hn
        go_wp2
        go_roundw
        case rel => exact ⟨j, _, _, xs, A, c, rfl, rfl, rfl, Hn.out, Ho.out, by (repeat' (first | (with_reducible exact Below.refl _ _) | (with_reducible assumption) | (with_reducible refine Below.drew ?_) | (with_reducible refine belowDrewN ?_ _) | (with_reducible refine Below.alloc ?_ ?_ _) | (with_reducible refine Below.setCell ?_ ?_ _) | (with_reducible refine belowStep (by assumption) ?_ ?_) | (with_reducible exact Below.size (by assumption)) | go_size))⟩
        case measure => simp [intOf]; omega
    · have E := Lib.hid (Hv'.out.last hm)
      go_wp2
      go_ret
      rw [E.out]
      exact ⟨_, rfl, Ho.out, hbr⟩
theorem bpR_yes {n d : Int} (h : proB n d = true) : bpN n d = p2 d ∧ bpS n d = n * p2 d / d ∧ bpR n d = n * p2 d % d := ⟨if_pos h, if_pos h, if_pos h⟩
theorem bpR_no {n d : Int} (h : proB n d = false) : bpN n d = 0 ∧ bpS n d = 0 ∧ bpR n d = 0 := by
  refine ⟨?_, ?_, ?_⟩ <;> simp [bpN, bpS, bpR, h]
theorem ret_bp {a b c a' b' c' : Int} {t t' : Bool} (h1 : a = a') (h2 : b = b') (h3 : c = c') (h4 : t = t') : Ending.returned (.tuple #[.int .i64 a, .int .i64 b, .int .i64 c, .bool t]) = .returned (.tuple #[.int .i64 a', .int .i64 b', .int .i64 c', .bool t']) := by rw [h1, h2, h3, h4]
theorem ret_bp3 {a b c a' b' c' : Int} (h1 : a = a') (h2 : b = b') (h3 : c = c') : Ending.returned (.tuple #[.int .i64 a, .int .i64 b, .int .i64 c]) = .returned (.tuple #[.int .i64 a', .int .i64 b', .int .i64 c']) := by rw [h1, h2, h3]
theorem bp_sizes {n d p : Int} (n1 : 1 ≤ n) (n2 : n ≤ 1000000000) (d1 : 1 ≤ d) (d2 : d ≤ 1000000000) (hp : 1 ≤ p) (hp2 : p < 2 * d) : 1 ≤ n * p ∧ n * p ≤ 2000000000000000000 ∧ 0 ≤ n * p / d ∧ n * p / d ≤ 2000000000000000000 ∧ 0 ≤ n * p % d ∧ n * p % d < d ∧ (n * p).tmod d = n * p % d ∧ (n * p).tdiv d = n * p / d := by
  have h1 := mul_pos1 n1 hp
  have h2 := Int.mul_le_mul n2 (show p ≤ 2000000000 by omega) (by omega) (by omega : (0 : Int) ≤ 1000000000)
  have h3 := Int.ediv_nonneg (show 0 ≤ n * p by omega) (show 0 ≤ d by omega)
  have h4 := Int.ediv_le_self d (show 0 ≤ n * p by omega)
  exact ⟨h1, by omega, h3, by omega, Int.emod_nonneg _ (by omega), Int.emod_lt_of_pos _ (by omega), Int.tmod_eq_emod_of_nonneg (by omega), Int.tdiv_eq_ediv_of_nonneg (by omega)⟩
set_option maxHeartbeats 4000000 in
theorem binaryParts_any (n d : Int) (w : World) (rn : -9223372036854775808 ≤ n ∧ n ≤ 9223372036854775807) (rd : -9223372036854775808 ≤ d ∧ d ≤ 9223372036854775807) : Calls Tryz.prog 133 #[.agg #[.int .i64 n, .int .i64 d]] w (Ret (.tuple #[.int .i64 (bpN n d), .int .i64 (bpS n d), .int .i64 (bpR n d), .bool (proB n d)]) w) := by
  cases h : proB n d with
  | false =>
    have E := Lib.hid (bpR_no h)
    go_enter Tryz.func133, Tryz.ntmps133
    go_wp2_with fail
    refine (isProper_any _ _ _ rn rd).mono ?_; rintro e w1 ⟨rfl, hb1⟩; obtain ⟨hc1, hf1⟩ := bcellB hb1; have hz1 := hb1.size; (try simp only [World.size_alloc] at hc1 hf1 hz1); (try have hy1_r_0 : wr.heap.size < w1.heap.size := by omega); (try have hn1_r_0 : wr.heap.size ≠ w1.heap.size := by omega); (try have hm1_r_0 : w1.heap.size ≠ wr.heap.size := by omega); (try have hy1_r_1 : wr.heap.size + 1 < w1.heap.size := by omega); (try have hn1_r_1 : wr.heap.size + 1 ≠ w1.heap.size := by omega); (try have hm1_r_1 : w1.heap.size ≠ wr.heap.size + 1 := by omega); (try have hy1_r_2 : wr.heap.size + 1 + 1 < w1.heap.size := by omega); (try have hp1_r_1 : wr.heap.size < w1.heap.size + 1 := by omega); (try have hp1_r_2 : wr.heap.size < w1.heap.size + 1 + 1 := by omega); (try have hy1_0_0 : w.heap.size < w1.heap.size := by omega); (try have hn1_0_0 : w.heap.size ≠ w1.heap.size := by omega); (try have hm1_0_0 : w1.heap.size ≠ w.heap.size := by omega); (try have hy1_0_1 : w.heap.size + 1 < w1.heap.size := by omega); (try have hn1_0_1 : w.heap.size + 1 ≠ w1.heap.size := by omega); (try have hm1_0_1 : w1.heap.size ≠ w.heap.size + 1 := by omega); (try have hy1_0_2 : w.heap.size + 1 + 1 < w1.heap.size := by omega); (try have hp1_0_1 : w.heap.size < w1.heap.size + 1 := by omega); (try have hp1_0_2 : w.heap.size < w1.heap.size + 1 + 1 := by omega); (try have hg1_g1 : g1 < w1.heap.size := by omega); (try have hi1_g1 : g1 ≠ w1.heap.size := by omega); (try have hj1_g1 : w1.heap.size ≠ g1 := by omega); (try have hk1_g1 : g1 < w1.heap.size + 1 := by omega); (try have hg1_g2 : g2 < w1.heap.size := by omega); (try have hi1_g2 : g2 ≠ w1.heap.size := by omega); (try have hj1_g2 : w1.heap.size ≠ g2 := by omega); (try have hk1_g2 : g2 < w1.heap.size + 1 := by omega)
    rw [h]
    go_wp2
    refine bodyPost_ret (by simp [results, Tryz.results133, go_sem, *]; try rfl) rfl ?_
    exact ⟨ret_bp E.out.1.symm E.out.2.1.symm E.out.2.2.symm rfl, by (repeat' (first | (with_reducible exact Below.refl _ _) | (with_reducible assumption) | (with_reducible refine Below.drew ?_) | (with_reducible refine belowDrewN ?_ _) | (with_reducible refine Below.alloc ?_ ?_ _) | (with_reducible refine Below.setCell ?_ ?_ _) | (with_reducible refine belowStep (by assumption) ?_ ?_) | (with_reducible exact Below.size (by assumption)) | go_size))⟩
  | true =>
    obtain ⟨n1, n2, d1, d2, hnd, hg, hgc, hi⟩ := proB_bounds h
    have E := Lib.hid (bpR_yes h)
    have T0 := Lib.hid (TwoAt.new w n d 27)
    clear hgc hi hg
    go_enter Tryz.func133, Tryz.ntmps133
    go_wp2_with fail
    refine (isProper_any _ _ _ rn rd).mono ?_; rintro e w1 ⟨rfl, hb1⟩; obtain ⟨hc1, hf1⟩ := bcellB hb1; have hz1 := hb1.size; (try simp only [World.size_alloc] at hc1 hf1 hz1); (try have hy1_r_0 : wr.heap.size < w1.heap.size := by omega); (try have hn1_r_0 : wr.heap.size ≠ w1.heap.size := by omega); (try have hm1_r_0 : w1.heap.size ≠ wr.heap.size := by omega); (try have hy1_r_1 : wr.heap.size + 1 < w1.heap.size := by omega); (try have hn1_r_1 : wr.heap.size + 1 ≠ w1.heap.size := by omega); (try have hm1_r_1 : w1.heap.size ≠ wr.heap.size + 1 := by omega); (try have hy1_r_2 : wr.heap.size + 1 + 1 < w1.heap.size := by omega); (try have hp1_r_1 : wr.heap.size < w1.heap.size + 1 := by omega); (try have hp1_r_2 : wr.heap.size < w1.heap.size + 1 + 1 := by omega); (try have hy1_0_0 : w.heap.size < w1.heap.size := by omega); (try have hn1_0_0 : w.heap.size ≠ w1.heap.size := by omega); (try have hm1_0_0 : w1.heap.size ≠ w.heap.size := by omega); (try have hy1_0_1 : w.heap.size + 1 < w1.heap.size := by omega); (try have hn1_0_1 : w.heap.size + 1 ≠ w1.heap.size := by omega); (try have hm1_0_1 : w1.heap.size ≠ w.heap.size + 1 := by omega); (try have hy1_0_2 : w.heap.size + 1 + 1 < w1.heap.size := by omega); (try have hp1_0_1 : w.heap.size < w1.heap.size + 1 := by omega); (try have hp1_0_2 : w.heap.size < w1.heap.size + 1 + 1 := by omega); (try have hg1_g1 : g1 < w1.heap.size := by omega); (try have hi1_g1 : g1 ≠ w1.heap.size := by omega); (try have hj1_g1 : w1.heap.size ≠ g1 := by omega); (try have hk1_g1 : g1 < w1.heap.size + 1 := by omega); (try have hg1_g2 : g2 < w1.heap.size := by omega); (try have hi1_g2 : g2 ≠ w1.heap.size := by omega); (try have hj1_g2 : w1.heap.size ≠ g2 := by omega); (try have hk1_g2 : g2 < w1.heap.size + 1 := by omega)
    rw [h]
    have T1 := Lib.hid (T0.out.below hb1)
    go_wp2
    go_loopw [6] (fun v6 wr => ∃ (j : Nat) (p : Int), v6 = .int .i64 p ∧ Pow d j p ∧ TwoAt wr w.heap.size n d ∧ Below w.heap.size w wr) (fun v6 _ => (d - intOf v6).toNat)
    case atStart => exact ⟨0, 1, rfl, Pow.start (by omega), T1.out, by (repeat' (first | (with_reducible exact Below.refl _ _) | (with_reducible assumption) | (with_reducible refine Below.drew ?_) | (with_reducible refine belowDrewN ?_ _) | (with_reducible refine Below.alloc ?_ ?_ _) | (with_reducible refine Below.setCell ?_ ?_ _) | (with_reducible refine belowStep (by assumption) ?_ ?_) | (with_reducible exact Below.size (by assumption)) | go_size))⟩
    case round =>
      obtain ⟨j, p, rfl, hp, hq, hbr⟩ := hrel
      have Hp := Lib.hid hp
      have Hq := Lib.hid hq
      have p1 := hp.2.2.1
      have p2' := hp.2.2.2.1
      clear hp
      obtain ⟨q1, q2, q3, q4, q5⟩ := hq
      by_cases hlt : p < d
      · have Hs := Lib.hid (Hp.out.step d2 hlt)
        go_wp2
        go_roundw
        case rel => exact ⟨j + 1, _, rfl, Hs.out, Hq.out, by (repeat' (first | (with_reducible exact Below.refl _ _) | (with_reducible assumption) | (with_reducible refine Below.drew ?_) | (with_reducible refine belowDrewN ?_ _) | (with_reducible refine Below.alloc ?_ ?_ _) | (with_reducible refine Below.setCell ?_ ?_ _) | (with_reducible refine belowStep (by assumption) ?_ ?_) | (with_reducible exact Below.size (by assumption)) | go_size))⟩
        case measure => simp [intOf]; omega
      · have e := Hp.out.last hlt
        have E2 : Hid (bpN n d = p ∧ bpS n d = n * p / d ∧ bpR n d = n * p % d) := Lib.hid (by rw [E.out.1, E.out.2.1, E.out.2.2, e]; exact ⟨rfl, rfl, rfl⟩)
        obtain ⟨s1, s2, s3, s4, s5, s6, s7, s8⟩ := bp_sizes n1 n2 (by omega) d2 p1 p2'
        have hne : d ≠ 0 := by omega
        clear e
        go_wp2
        all_goals (try go_region)
        all_goals (try go_wp2)
        all_goals refine bodyPost_ret (by simp [results, Tryz.results133, go_sem, *]; try rfl) rfl ?_
        all_goals exact ⟨ret_bp E2.out.1.symm (by first | exact E2.out.2.1.symm | rw [E2.out.2.1, s8]) (by first | exact E2.out.2.2.symm | rw [E2.out.2.2, s7]) rfl, by (repeat' (first | (with_reducible exact Below.refl _ _) | (with_reducible assumption) | (with_reducible refine Below.drew ?_) | (with_reducible refine belowDrewN ?_ _) | (with_reducible refine Below.alloc ?_ ?_ _) | (with_reducible refine Below.setCell ?_ ?_ _) | (with_reducible refine belowStep (by assumption) ?_ ?_) | (with_reducible exact Below.size (by assumption)) | go_size))⟩
set_option maxHeartbeats 4000000 in
theorem meParts_any (n d : Int) (w : World) (h : proB n d = true) : Calls Tryz.prog 62 #[.agg #[.int .i64 n, .int .i64 d]] w (Ret (.tuple #[.int .i64 (p2 d), .int .i64 (n * p2 d / d), .int .i64 (n * p2 d % d)]) w) := by
  obtain ⟨n1, n2, d1, d2, hnd, hg, hgc, hi⟩ := proB_bounds h
  have T0 := Lib.hid (TwoAt.new w n d 27)
  clear hgc hi hg h
  go_enter Tryz.func62, Tryz.ntmps62
  go_wp2
  go_loopw [5] (fun v6 wr => ∃ (j : Nat) (p : Int), v6 = .int .i64 p ∧ Pow d j p ∧ TwoAt wr w.heap.size n d ∧ Below w.heap.size w wr) (fun v6 _ => (d - intOf v6).toNat)
  case atStart => exact ⟨0, 1, rfl, Pow.start (by omega), T0.out, by (repeat' (first | (with_reducible exact Below.refl _ _) | (with_reducible assumption) | (with_reducible refine Below.drew ?_) | (with_reducible refine belowDrewN ?_ _) | (with_reducible refine Below.alloc ?_ ?_ _) | (with_reducible refine Below.setCell ?_ ?_ _) | (with_reducible refine belowStep (by assumption) ?_ ?_) | (with_reducible exact Below.size (by assumption)) | go_size))⟩
  case round =>
    obtain ⟨j, p, rfl, hp, hq, hbr⟩ := hrel
    have Hp := Lib.hid hp
    have Hq := Lib.hid hq
    have p1 := hp.2.2.1
    have p2' := hp.2.2.2.1
    clear hp
    obtain ⟨q1, q2, q3, q4, q5⟩ := hq
    by_cases hlt : p < d
    · have Hs := Lib.hid (Hp.out.step d2 hlt)
      go_wp2
      go_roundw
      case rel => exact ⟨j + 1, _, rfl, Hs.out, Hq.out, by (repeat' (first | (with_reducible exact Below.refl _ _) | (with_reducible assumption) | (with_reducible refine Below.drew ?_) | (with_reducible refine belowDrewN ?_ _) | (with_reducible refine Below.alloc ?_ ?_ _) | (with_reducible refine Below.setCell ?_ ?_ _) | (with_reducible refine belowStep (by assumption) ?_ ?_) | (with_reducible exact Below.size (by assumption)) | go_size))⟩
      case measure => simp [intOf]; omega
    · have e := Hp.out.last hlt
      have E2 := Lib.hid e
      obtain ⟨s1, s2, s3, s4, s5, s6, s7, s8⟩ := bp_sizes n1 n2 (by omega) d2 p1 p2'
      have hne : d ≠ 0 := by omega
      clear e
      go_wp2
      all_goals (try go_region)
      all_goals (try go_wp2)
      all_goals refine bodyPost_ret (by simp [results, Tryz.results62, go_sem, *]; try rfl) rfl ?_
      all_goals (rw [E2.out]; exact ⟨ret_bp3 rfl (by first | rfl | rw [s8]) (by first | rfl | rw [s7]), by (repeat' (first | (with_reducible exact Below.refl _ _) | (with_reducible assumption) | (with_reducible refine Below.drew ?_) | (with_reducible refine belowDrewN ?_ _) | (with_reducible refine Below.alloc ?_ ?_ _) | (with_reducible refine Below.setCell ?_ ?_ _) | (with_reducible refine belowStep (by assumption) ?_ ?_) | (with_reducible exact Below.size (by assumption)) | go_size))⟩)
end Go.Proofs.YtbjblkfibinenadGreatDoor


/-
  Contracts of the program's expansion by binary digits.
-/
namespace Go.Proofs.YtbjblkfibinenadGreatDoor
open Go.RowKit
open Go.Maps Go.WideMaps
def bxO (n d : Int) : Option (List Int) := pexO n d (biO n d)
set_option maxRecDepth 100000 in
set_option maxHeartbeats 8000000 in
theorem binTerms_any (n d : Int) (w : World) (hp : proB n d = true) : Calls Tryz.prog 132 #[.agg #[], .agg #[.int .i64 n, .int .i64 d]] w (RetM (biO n d) w) := by
  obtain ⟨n1, n2, d1, d2, hnd, hg, hgc, hi⟩ := proB_bounds hp
  obtain ⟨J, B⟩ := binS hp
  have N1 := B.N1
  have N2 := B.N2
  have s0 := B.s0
  have s1 := B.s1
  have r0 := B.r0
  have r1 := B.r1
  have hdN := Int.mul_le_mul d2 (show p2 d ≤ 2000000000 by omega) (by omega) (by omega : (0 : Int) ≤ 1000000000)
  have hdN1 : 1 * p2 d ≤ d * p2 d := Int.mul_le_mul_of_nonneg_right (by omega) (by omega)
  have E : Hid (bL n d = hvL 31 (n * p2 d / d) (p2 d) ++ hvL 31 (n * p2 d % d) (d * p2 d)) := Lib.hid rfl
  have l1 := hvL_len 31 (n * p2 d / d) (p2 d)
  have l2 := hvL_len 31 (n * p2 d % d) (d * p2 d)
  have HB : Hid (∀ w : World, Calls Tryz.prog 133 #[.agg #[.int .i64 n, .int .i64 d]] w (Ret (.tuple #[.int .i64 (p2 d), .int .i64 (n * p2 d / d), .int .i64 (n * p2 d % d), .bool true]) w)) := Lib.hid fun w => by
    have := binaryParts_any n d w ⟨by omega, by omega⟩ ⟨by omega, by omega⟩
    obtain ⟨e1, e2, e3⟩ := bpR_yes hp
    rw [e1, e2, e3, hp] at this
    exact this
  have H1 := Lib.hid fun (w : World) => halvesAt_any (n * p2 d / d) (p2 d) w s0 (by omega) (by omega) (by omega)
  have H2 := Lib.hid fun (w : World) (y : Int) (hy : y = d * p2 d) => (by subst hy; exact halvesAt_any (n * p2 d % d) (d * p2 d) w r0 (by omega) (by omega) (by omega) : Calls Tryz.prog 135 #[.int .i64 (n * p2 d % d), .int .i64 y] w (RetL (hvL 31 (n * p2 d % d) (d * p2 d)) w))
  have HW : Hid (IntKind.i64.wrap (d * p2 d) = d * p2 d) := Lib.hid (IntWalk.i64_in _ (by omega))
  clear B hg hgc hi hp
  have T0 := Lib.hid ((TwoAt.new (w.alloc (.cells #[] 80)) n d 27))
  generalize hvL 31 (n * p2 d / d) (p2 d) = xs at *
  generalize hvL 31 (n * p2 d % d) (d * p2 d) = ys at *
  generalize n * p2 d / d = s at *
  generalize n * p2 d % d = r at *
  generalize hP : p2 d = P at *
  clear hP
  go_enter Tryz.func132, Tryz.ntmps132
  go_wp2_with fail
  refine (HB.out _).mono ?_; rintro e w2 ⟨rfl, hb2⟩
  have hz2 := hb2.size
  simp only [World.size_alloc] at hz2
  obtain ⟨t1, t2, t3, t4, t5⟩ := T0.out.below hb2
  simp only [World.size_alloc] at t1 t2 t3 t4 t5
  go_upto_region 2 with fail
  go_region_held3 (fun w' => w'.cell? ⟨w.heap.size + 1, 0, none⟩ = some (.int .i64 n) ∧ w'.cell? ⟨w.heap.size + 1, 1, none⟩ = some (.int .i64 d)) (first | exact ⟨t1, t2⟩ | go_keep) (first
    | (go_at_call_of 135 (Value.int IntKind.i64 r); refine (H2.out _ _ HW.out).mono ?_; rintro e w4 ⟨v4, rfl, ho4, hb4⟩; obtain ⟨A4, c4, rfl, hr4⟩ := ho4.form; obtain ⟨hc4, hf4⟩ := bcellB hb4; have hz4 := hb4.size; (try simp only [World.size_alloc, World.size_setCell, World.size_drew, World.heap_drewN] at hc4 hf4 hz4); (try have hy4_00 : w.heap.size < w4.heap.size := by omega); (try have hn4_00 : w.heap.size ≠ w4.heap.size := by omega); (try have hm4_00 : w4.heap.size ≠ w.heap.size := by omega); (try have hp4_00 : w.heap.size < w4.heap.size + 1 := by omega); (try have hy4_01 : w.heap.size + 1 < w4.heap.size := by omega); (try have hn4_01 : w.heap.size + 1 ≠ w4.heap.size := by omega); (try have hm4_01 : w4.heap.size ≠ w.heap.size + 1 := by omega); (try have hp4_01 : w.heap.size + 1 < w4.heap.size + 1 := by omega); (try have hy4_10 : w2.heap.size < w4.heap.size := by omega); (try have hn4_10 : w2.heap.size ≠ w4.heap.size := by omega); (try have hm4_10 : w4.heap.size ≠ w2.heap.size := by omega); (try have hp4_10 : w2.heap.size < w4.heap.size + 1 := by omega); (try have hy4_11 : w2.heap.size + 1 < w4.heap.size := by omega); (try have hn4_11 : w2.heap.size + 1 ≠ w4.heap.size := by omega); (try have hm4_11 : w4.heap.size ≠ w2.heap.size + 1 := by omega); (try have hp4_11 : w2.heap.size + 1 < w4.heap.size + 1 := by omega); (try have hy4_20 : w3.heap.size < w4.heap.size := by omega); (try have hn4_20 : w3.heap.size ≠ w4.heap.size := by omega); (try have hm4_20 : w4.heap.size ≠ w3.heap.size := by omega); (try have hp4_20 : w3.heap.size < w4.heap.size + 1 := by omega); (try have hy4_21 : w3.heap.size + 1 < w4.heap.size := by omega); (try have hn4_21 : w3.heap.size + 1 ≠ w4.heap.size := by omega); (try have hm4_21 : w4.heap.size ≠ w3.heap.size + 1 := by omega); (try have hp4_21 : w3.heap.size + 1 < w4.heap.size + 1 := by omega))
    | (go_at_call_of 135 (Value.int IntKind.i64 s); refine (H1.out _).mono ?_; rintro e w3 ⟨v3, rfl, ho3, hb3⟩; obtain ⟨A3, c3, rfl, hr3⟩ := ho3.form; obtain ⟨hc3, hf3⟩ := bcellB hb3; have hz3 := hb3.size; (try simp only [World.size_drew] at hc3 hf3 hz3); (try have hy3_00 : w.heap.size < w3.heap.size := by omega); (try have hn3_00 : w.heap.size ≠ w3.heap.size := by omega); (try have hm3_00 : w3.heap.size ≠ w.heap.size := by omega); (try have hp3_00 : w.heap.size < w3.heap.size + 1 := by omega); (try have hy3_01 : w.heap.size + 1 < w3.heap.size := by omega); (try have hn3_01 : w.heap.size + 1 ≠ w3.heap.size := by omega); (try have hm3_01 : w3.heap.size ≠ w.heap.size + 1 := by omega); (try have hp3_01 : w.heap.size + 1 < w3.heap.size + 1 := by omega); (try have hy3_10 : w2.heap.size < w3.heap.size := by omega); (try have hn3_10 : w2.heap.size ≠ w3.heap.size := by omega); (try have hm3_10 : w3.heap.size ≠ w2.heap.size := by omega); (try have hp3_10 : w2.heap.size < w3.heap.size + 1 := by omega); (try have hy3_11 : w2.heap.size + 1 < w3.heap.size := by omega); (try have hn3_11 : w2.heap.size + 1 ≠ w3.heap.size := by omega); (try have hm3_11 : w3.heap.size ≠ w2.heap.size + 1 := by omega); (try have hp3_11 : w2.heap.size + 1 < w3.heap.size + 1 := by omega))
    | (go_at_call 134; refine (concat2_any _ _ _ (by (first | (go_size; done) | ((try simp only [World.size_alloc, World.size_setCell, World.size_drew, World.heap_drewN]); omega))) (by first | (simp; done) | exact litNew rfl rfl) (by first | (simp; done) | exact litNew rfl rfl) (hr3.below (by (repeat' (first | (with_reducible exact Below.refl _ _) | (with_reducible assumption) | (with_reducible refine Below.drew ?_) | (with_reducible refine belowDrewN ?_ _) | (with_reducible refine Below.alloc ?_ ?_ _) | (with_reducible refine Below.setCell ?_ ?_ _) | (with_reducible refine belowStep (by assumption) ?_ ?_) | (with_reducible exact Below.size (by assumption)) | go_size)))) (hr4.below (by (repeat' (first | (with_reducible exact Below.refl _ _) | (with_reducible assumption) | (with_reducible refine Below.drew ?_) | (with_reducible refine belowDrewN ?_ _) | (with_reducible refine Below.alloc ?_ ?_ _) | (with_reducible refine Below.setCell ?_ ?_ _) | (with_reducible refine belowStep (by assumption) ?_ ?_) | (with_reducible exact Below.size (by assumption)) | go_size)))) (by omega)).mono ?_; rintro e w5 ⟨v5, rfl, ho5, hb5⟩; obtain ⟨hc5, hf5⟩ := bcellB hb5; have hz5 := hb5.size; (try simp only [World.size_alloc] at hc5 hf5 hz5); (try have hy5_00 : w.heap.size < w5.heap.size := by omega); (try have hn5_00 : w.heap.size ≠ w5.heap.size := by omega); (try have hm5_00 : w5.heap.size ≠ w.heap.size := by omega); (try have hp5_00 : w.heap.size < w5.heap.size + 1 := by omega); (try have hy5_01 : w.heap.size + 1 < w5.heap.size := by omega); (try have hn5_01 : w.heap.size + 1 ≠ w5.heap.size := by omega); (try have hm5_01 : w5.heap.size ≠ w.heap.size + 1 := by omega); (try have hp5_01 : w.heap.size + 1 < w5.heap.size + 1 := by omega); (try have hy5_10 : w2.heap.size < w5.heap.size := by omega); (try have hn5_10 : w2.heap.size ≠ w5.heap.size := by omega); (try have hm5_10 : w5.heap.size ≠ w2.heap.size := by omega); (try have hp5_10 : w2.heap.size < w5.heap.size + 1 := by omega); (try have hy5_11 : w2.heap.size + 1 < w5.heap.size := by omega); (try have hn5_11 : w2.heap.size + 1 ≠ w5.heap.size := by omega); (try have hm5_11 : w5.heap.size ≠ w2.heap.size + 1 := by omega); (try have hp5_11 : w2.heap.size + 1 < w5.heap.size + 1 := by omega); (try have hy5_20 : w4.heap.size < w5.heap.size := by omega); (try have hn5_20 : w4.heap.size ≠ w5.heap.size := by omega); (try have hm5_20 : w5.heap.size ≠ w4.heap.size := by omega); (try have hp5_20 : w4.heap.size < w5.heap.size + 1 := by omega); (try have hy5_21 : w4.heap.size + 1 < w5.heap.size := by omega); (try have hn5_21 : w4.heap.size + 1 ≠ w5.heap.size := by omega); (try have hm5_21 : w5.heap.size ≠ w4.heap.size + 1 := by omega); (try have hp5_21 : w4.heap.size + 1 < w5.heap.size + 1 := by omega)))
  all_goals
    go_wp2
    go_ret2
    exact ⟨_, _, rfl, rfl, fun xs' hx => by injection hx with hx; subst hx; rw [E.out]; exact ho5.mono (by (first | (go_size; done) | ((try simp only [World.size_alloc, World.size_setCell, World.size_drew, World.heap_drewN]); omega))), by (repeat' (first | (with_reducible exact Below.refl _ _) | (with_reducible assumption) | (with_reducible refine Below.drew ?_) | (with_reducible refine belowDrewN ?_ _) | (with_reducible refine Below.alloc ?_ ?_ _) | (with_reducible refine Below.setCell ?_ ?_ _) | (with_reducible refine belowStep (by assumption) ?_ ?_) | (with_reducible exact Below.size (by assumption)) | go_size))⟩
set_option maxRecDepth 100000 in
theorem binMethod (j : Nat) (w : World) : (method (j + 1) 80 (.agg #[]) "loop.example/g01107/impl.termsOf").run Tryz.prog w = .ok (132, .agg #[]) w := by kernel_rfl
set_option maxRecDepth 100000 in
theorem binD (zd : DataW Unit) : mD.atKey (.string [98, 105, 110, 97, 114, 121]) zd = .lit (.int .i64 ((80 : Nat) : Int)) := by kernel_rfl
set_option maxRecDepth 100000 in
set_option maxHeartbeats 2000000 in
theorem binaryExp_any (n d : Int) (w : World) (rn : -9223372036854775808 ≤ n ∧ n ≤ 9223372036854775807) (rd : -9223372036854775808 ≤ d ∧ d ≤ 9223372036854775807) : Calls Tryz.prog 19 #[.agg #[.int .i64 n, .int .i64 d]] w (RetLB ((bxO n d).getD []) (bxO n d).isSome w) := by
  have HX := Lib.hid fun (w : World) => expandBy_any ⟨#[98, 105, 110, 97, 114, 121]⟩ (by decide) 80 132 binD n d (if proB n d = true then biO n d else none) w rn rd binMethod (fun _ _ => rfl) (fun hp w => by rw [if_pos hp]; exact binTerms_any n d w hp) (fun xs hx => by
    split at hx
    · rename_i hp
      injection hx with hx
      subst hx
      have := bL_facts hp
      exact ⟨this.1, by omega, In64.of_mem fun x hx => by have := this.2.2.1 x hx; omega⟩
    · cases hx)
  have E : Hid (pexO n d (if proB n d = true then biO n d else none) = bxO n d) := Lib.hid (by unfold bxO pexO; cases proB n d <;> rfl)
  go_enter Tryz.func19, Tryz.ntmps19
  go_wp2_with fail
  refine (HX.out _).mono ?_; rintro e w2 ⟨v2, rfl, ho2, hb2⟩
  rw [E.out] at ho2 ⊢
  have Ho2 := Lib.hid ho2
  have hz2 := hb2.size
  clear ho2
  go_wp2
  go_ret2
  exact ⟨_, rfl, Ho2.out.mono (by (first | (go_size; done) | ((try simp only [World.size_alloc, World.size_setCell, World.size_drew, World.heap_drewN]); omega))), by (repeat' (first | (with_reducible exact Below.refl _ _) | (with_reducible assumption) | (with_reducible refine Below.drew ?_) | (with_reducible refine belowDrewN ?_ _) | (with_reducible refine Below.alloc ?_ ?_ _) | (with_reducible refine Below.setCell ?_ ?_ _) | (with_reducible refine belowStep (by assumption) ?_ ?_) | (with_reducible exact Below.size (by assumption)) | go_size))⟩
end Go.Proofs.YtbjblkfibinenadGreatDoor
