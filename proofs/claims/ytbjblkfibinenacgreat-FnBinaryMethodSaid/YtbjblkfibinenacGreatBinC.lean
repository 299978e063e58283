
/-
  Contracts of the parts that the method by binary digits begins with.
-/
import Derived.Test.YtbjblkfibinenacGreatFacP
import Derived.Test.YtbjblkfibinenacGreatPro
import Derived.Test.YtbjblkfibinenacGreatBinQ
import Derived.Test.YtbjblkfibinenacGreatApp
import Derived.Test.YtbjblkfibinenacGreatLists
namespace Go.Proofs.YtbjblkfibinenacGreat
open Go.RowKit
theorem pow_le31 {k : Nat} (h : k ≤ 31) : (2 : Int) ^ k ≤ 2147483648 := by
  have h1 := Nat.pow_le_pow_right (n := 2) (by omega) h
  have e : (2 : Int) ^ k = ((2 ^ k : Nat) : Int) := by simp
  have e2 : (2 : Nat) ^ 31 = 2147483648 := rfl
  rw [e]
  omega
/-- the relation of the loop -/
def Hv (m0 e0 : Int) (k : Nat) (m e : Int) (xs : List Int) : Prop := 0 ≤ m ∧ m < 2 ^ k ∧ k ≤ 31 ∧ 0 ≤ e ∧ e ≤ 9223372036854775807 ∧ xs.length + k ≤ 31 ∧ hvL 31 m0 e0 = xs ++ hvL k m e
theorem Hv.more {m0 e0 m e : Int} {k : Nat} {xs : List Int} (h : Hv m0 e0 k m e xs) (hm : 0 < m) : ∃ j, k = j + 1 ∧ Hv m0 e0 j (m / 2) (e / 2) (if m % 2 = 1 then xs ++ [e] else xs) := by
  obtain ⟨h1, h2, h3, h4, h5, h6, h7⟩ := h
  cases k with
  | zero => simp at h2; omega
  | succ j =>
    have hp : (2 : Int) ^ (j + 1) = 2 ^ j * 2 := Int.pow_succ _ _
    refine ⟨j, rfl, by omega, by omega, by omega, by omega, by omega, ?_, ?_⟩
    · split <;> (try simp) <;> omega
    · by_cases ho : m % 2 = 1
      · rw [if_pos ho, h7, hvL_odd hm ho, List.append_assoc]; rfl
      · rw [if_neg ho, h7, hvL_even hm ho]
theorem Hv.last {m0 e0 m e : Int} {k : Nat} {xs : List Int} (h : Hv m0 e0 k m e xs) (hm : ¬ 0 < m) : hvL 31 m0 e0 = xs := by
  rw [h.2.2.2.2.2.2, hvL_end (by omega), List.append_nil]
set_option maxHeartbeats 2000000 in
theorem halvesAt_any (m0 e0 : Int) (w : World) (hm0 : 0 ≤ m0) (hm1 : m0 < 2147483648) (he0 : 0 ≤ e0) (he1 : e0 ≤ 9223372036854775807) : Calls Tryz.prog 96 #[.int .i64 m0, .int .i64 e0] w (RetL (hvL 31 m0 e0) w) := by
  go_enter Tryz.func96, Tryz.ntmps96
  go_wp2
  go_loopw [0, 1, 5] (fun v0 v1 v5 wr => ∃ (k : Nat) (m e : Int) (xs : List Int) (A : Option Addr) (c : Nat), v0 = .int .i64 m ∧ v1 = .int .i64 e ∧ v5 = .slice A xs.length c ∧ Hv m0 e0 k m e xs ∧ OwnI wr w.heap.size (.slice A xs.length c) xs ∧ Below w.heap.size w wr) (fun v0 _ _ _ => (intOf v0).toNat)
  case atStart => exact ⟨31, m0, e0, [], _, _, rfl, rfl, rfl, ⟨hm0, by rw [pow_31]; exact hm1, Nat.le_refl _, he0, he1, by simp, rfl⟩, OwnI.zero w w.heap.size (Nat.le_refl _), by (repeat' (first | (with_reducible exact Below.refl _ _) | (with_reducible assumption) | (with_reducible refine Below.drew ?_) | (with_reducible refine belowDrewN ?_ _) | (with_reducible refine Below.alloc ?_ ?_ _) | (with_reducible refine Below.setCell ?_ ?_ _) | (with_reducible refine belowStep (by assumption) ?_ ?_) | (with_reducible exact Below.size (by assumption)) | go_size))⟩
  case round =>
    obtain ⟨k, m, e, xs, A, c, rfl, rfl, rfl, hv, ho, hbr⟩ := hrel
    have hzr := hbr.size
    have Ho := Lib.hid ho
    have Hv' := Lib.hid hv
    have b1 := hv.1
    have b2 : m < 2147483648 := by
      have h2 := hv.2.1
      have h3 := pow_le31 hv.2.2.1
      omega
    have b3 := hv.2.2.2.1
    have b4 := hv.2.2.2.2.1
    have b5 : xs.length ≤ 31 := by have := hv.2.2.2.2.2.1; omega
    clear ho hv
    by_cases hm : 0 < m
    · obtain ⟨j, _, hn⟩ := Hv'.out.more hm
      by_cases ho : m % 2 = 1
      · rw [if_pos ho] at hn
        have Hn := Lib.hid hn
        have hod : (m % 2 == 1) = true := by simp [ho]
        clear hn
        go_wp2_with (at_builtin; refine wpList_app _ (o := ⟨some 17, _, _, _, _, _⟩) (ys := [e]) rfl _ _ rfl rfl (Ho.out.below (by (repeat' (first | (with_reducible exact Below.refl _ _) | (with_reducible assumption) | (with_reducible refine Below.drew ?_) | (with_reducible refine belowDrewN ?_ _) | (with_reducible refine Below.alloc ?_ ?_ _) | (with_reducible refine Below.setCell ?_ ?_ _) | (with_reducible refine belowStep (by assumption) ?_ ?_) | (with_reducible exact Below.size (by assumption)) | go_size)))) (1) (1) (by first | (simp; done) | (simp; omega)) rfl (Reads.one _ e) (by (try simp only [List.length_nil, List.length_cons]); omega) (by first | exact Nat.le_refl _ | ((try simp only [World.size_alloc]); omega)) ?_; intro v3 w3 ho3 hb3 hg3 ht3; clear hg3 ht3; have hz3 := hb3.size; (try simp only [World.size_alloc] at hz3))
        obtain ⟨A3, c3, rfl, hr3⟩ := ho3.form
        go_roundw
        case rel => exact ⟨j, _, _, xs ++ [e], A3, c3, rfl, rfl, rfl, Hn.out, ho3, by (repeat' (first | (with_reducible exact Below.refl _ _) | (with_reducible assumption) | (with_reducible refine Below.drew ?_) | (with_reducible refine belowDrewN ?_ _) | (with_reducible refine Below.alloc ?_ ?_ _) | (with_reducible refine Below.setCell ?_ ?_ _) | (with_reducible refine belowStep (by assumption) ?_ ?_) | (with_reducible exact Below.size (by assumption)) | go_size))⟩
        case measure => simp [intOf]; omega
      · rw [if_neg ho] at hn
        have Hn := Lib.hid hn
        have hod : (m % 2 == 1) = false := by simp [ho]
        clear hn
        go_wp2
        go_roundw
        case rel => exact ⟨j, _, _, xs, A, c, rfl, rfl, rfl, Hn.out, Ho.out, by (repeat' (first | (with_reducible exact Below.refl _ _) | (with_reducible assumption) | (with_reducible refine Below.drew ?_) | (with_reducible refine belowDrewN ?_ _) | (with_reducible refine Below.alloc ?_ ?_ _) | (with_reducible refine Below.setCell ?_ ?_ _) | (with_reducible refine belowStep (by assumption) ?_ ?_) | (with_reducible exact Below.size (by assumption)) | go_size))⟩
        case measure => simp [intOf]; omega
    · have E := Lib.hid (Hv'.out.last hm)
      go_wp2
      go_ret
      rw [E.out]
      exact ⟨_, rfl, Ho.out, hbr⟩
theorem bpR_yes {n d : Int} (h : proB n d = true) : bpN n d = p2 d ∧ bpS n d = n * p2 d / d ∧ bpR n d = n * p2 d % d := ⟨if_pos h, if_pos h, if_pos h⟩
theorem bpR_no {n d : Int} (h : proB n d = false) : bpN n d = 0 ∧ bpS n d = 0 ∧ bpR n d = 0 := by
  refine ⟨?_, ?_, ?_⟩ <;> simp [bpN, bpS, bpR, h]
theorem ret_bp {a b c a' b' c' : Int} {t t' : Bool} (h1 : a = a') (h2 : b = b') (h3 : c = c') (h4 : t = t') : Ending.returned (.tuple #[.int .i64 a, .int .i64 b, .int .i64 c, .bool t]) = .returned (.tuple #[.int .i64 a', .int .i64 b', .int .i64 c', .bool t']) := by rw [h1, h2, h3, h4]
theorem ret_bp3 {a b c a' b' c' : Int} (h1 : a = a') (h2 : b = b') (h3 : c = c') : Ending.returned (.tuple #[.int .i64 a, .int .i64 b, .int .i64 c]) = .returned (.tuple #[.int .i64 a', .int .i64 b', .int .i64 c']) := by rw [h1, h2, h3]
theorem bp_sizes {n d p : Int} (n1 : 1 ≤ n) (n2 : n ≤ 1000000000) (d1 : 1 ≤ d) (d2 : d ≤ 1000000000) (hp : 1 ≤ p) (hp2 : p < 2 * d) : 1 ≤ n * p ∧ n * p ≤ 2000000000000000000 ∧ 0 ≤ n * p / d ∧ n * p / d ≤ 2000000000000000000 ∧ 0 ≤ n * p % d ∧ n * p % d < d ∧ (n * p).tmod d = n * p % d ∧ (n * p).tdiv d = n * p / d := by
  have h1 := mul_pos1 n1 hp
  have h2 := Int.mul_le_mul n2 (show p ≤ 2000000000 by omega) (by omega) (by omega : (0 : Int) ≤ 1000000000)
  have h3 := Int.ediv_nonneg (show 0 ≤ n * p by omega) (show 0 ≤ d by omega)
  have h4 := Int.ediv_le_self d (show 0 ≤ n * p by omega)
  exact ⟨h1, by omega, h3, by omega, Int.emod_nonneg _ (by omega), Int.emod_lt_of_pos _ (by omega), Int.tmod_eq_emod_of_nonneg (by omega), Int.tdiv_eq_ediv_of_nonneg (by omega)⟩
set_option maxHeartbeats 4000000 in
theorem binaryParts_any (n d : Int) (w : World) (rn : -9223372036854775808 ≤ n ∧ n ≤ 9223372036854775807) (rd : -9223372036854775808 ≤ d ∧ d ≤ 9223372036854775807) : Calls Tryz.prog 6 #[.agg #[.int .i64 n, .int .i64 d]] w (Ret (.tuple #[.int .i64 (bpN n d), .int .i64 (bpS n d), .int .i64 (bpR n d), .bool (proB n d)]) w) := by
  cases h : proB n d with
  | false =>
    have E := Lib.hid (bpR_no h)
    go_enter Tryz.func6, Tryz.ntmps6
    go_wp2_with fail
    refine (isProper_any _ _ _ rn rd).mono ?_; rintro e w1 ⟨rfl, hb1⟩; obtain ⟨hc1, hf1⟩ := bcellB hb1; have hz1 := hb1.size; (try simp only [World.size_alloc] at hc1 hf1 hz1); (try have hy1_r_0 : wr.heap.size < w1.heap.size := by omega); (try have hn1_r_0 : wr.heap.size ≠ w1.heap.size := by omega); (try have hm1_r_0 : w1.heap.size ≠ wr.heap.size := by omega); (try have hy1_r_1 : wr.heap.size + 1 < w1.heap.size := by omega); (try have hn1_r_1 : wr.heap.size + 1 ≠ w1.heap.size := by omega); (try have hm1_r_1 : w1.heap.size ≠ wr.heap.size + 1 := by omega); (try have hy1_r_2 : wr.heap.size + 1 + 1 < w1.heap.size := by omega); (try have hp1_r_1 : wr.heap.size < w1.heap.size + 1 := by omega); (try have hp1_r_2 : wr.heap.size < w1.heap.size + 1 + 1 := by omega); (try have hy1_0_0 : w.heap.size < w1.heap.size := by omega); (try have hn1_0_0 : w.heap.size ≠ w1.heap.size := by omega); (try have hm1_0_0 : w1.heap.size ≠ w.heap.size := by omega); (try have hy1_0_1 : w.heap.size + 1 < w1.heap.size := by omega); (try have hn1_0_1 : w.heap.size + 1 ≠ w1.heap.size := by omega); (try have hm1_0_1 : w1.heap.size ≠ w.heap.size + 1 := by omega); (try have hy1_0_2 : w.heap.size + 1 + 1 < w1.heap.size := by omega); (try have hp1_0_1 : w.heap.size < w1.heap.size + 1 := by omega); (try have hp1_0_2 : w.heap.size < w1.heap.size + 1 + 1 := by omega); (try have hg1_g1 : g1 < w1.heap.size := by omega); (try have hi1_g1 : g1 ≠ w1.heap.size := by omega); (try have hj1_g1 : w1.heap.size ≠ g1 := by omega); (try have hk1_g1 : g1 < w1.heap.size + 1 := by omega); (try have hg1_g2 : g2 < w1.heap.size := by omega); (try have hi1_g2 : g2 ≠ w1.heap.size := by omega); (try have hj1_g2 : w1.heap.size ≠ g2 := by omega); (try have hk1_g2 : g2 < w1.heap.size + 1 := by omega)
    rw [h]
    go_wp2
    refine bodyPost_ret (by simp [results, Tryz.results6, go_sem, *]; try rfl) rfl ?_
    exact ⟨ret_bp E.out.1.symm E.out.2.1.symm E.out.2.2.symm rfl, by (repeat' (first | (with_reducible exact Below.refl _ _) | (with_reducible assumption) | (with_reducible refine Below.drew ?_) | (with_reducible refine belowDrewN ?_ _) | (with_reducible refine Below.alloc ?_ ?_ _) | (with_reducible refine Below.setCell ?_ ?_ _) | (with_reducible refine belowStep (by assumption) ?_ ?_) | (with_reducible exact Below.size (by assumption)) | go_size))⟩
  | true =>
    obtain ⟨n1, n2, d1, d2, hnd, hg, hgc, hi⟩ := proB_bounds h
    have E := Lib.hid (bpR_yes h)
    have T0 := Lib.hid (TwoAt.new w n d 25)
    clear hgc hi hg
    go_enter Tryz.func6, Tryz.ntmps6
    go_wp2_with fail
    refine (isProper_any _ _ _ rn rd).mono ?_; rintro e w1 ⟨rfl, hb1⟩; obtain ⟨hc1, hf1⟩ := bcellB hb1; have hz1 := hb1.size; (try simp only [World.size_alloc] at hc1 hf1 hz1); (try have hy1_r_0 : wr.heap.size < w1.heap.size := by omega); (try have hn1_r_0 : wr.heap.size ≠ w1.heap.size := by omega); (try have hm1_r_0 : w1.heap.size ≠ wr.heap.size := by omega); (try have hy1_r_1 : wr.heap.size + 1 < w1.heap.size := by omega); (try have hn1_r_1 : wr.heap.size + 1 ≠ w1.heap.size := by omega); (try have hm1_r_1 : w1.heap.size ≠ wr.heap.size + 1 := by omega); (try have hy1_r_2 : wr.heap.size + 1 + 1 < w1.heap.size := by omega); (try have hp1_r_1 : wr.heap.size < w1.heap.size + 1 := by omega); (try have hp1_r_2 : wr.heap.size < w1.heap.size + 1 + 1 := by omega); (try have hy1_0_0 : w.heap.size < w1.heap.size := by omega); (try have hn1_0_0 : w.heap.size ≠ w1.heap.size := by omega); (try have hm1_0_0 : w1.heap.size ≠ w.heap.size := by omega); (try have hy1_0_1 : w.heap.size + 1 < w1.heap.size := by omega); (try have hn1_0_1 : w.heap.size + 1 ≠ w1.heap.size := by omega); (try have hm1_0_1 : w1.heap.size ≠ w.heap.size + 1 := by omega); (try have hy1_0_2 : w.heap.size + 1 + 1 < w1.heap.size := by omega); (try have hp1_0_1 : w.heap.size < w1.heap.size + 1 := by omega); (try have hp1_0_2 : w.heap.size < w1.heap.size + 1 + 1 := by omega); (try have hg1_g1 : g1 < w1.heap.size := by omega); (try have hi1_g1 : g1 ≠ w1.heap.size := by omega); (try have hj1_g1 : w1.heap.size ≠ g1 := by omega); (try have hk1_g1 : g1 < w1.heap.size + 1 := by omega); (try have hg1_g2 : g2 < w1.heap.size := by omega); (try have hi1_g2 : g2 ≠ w1.heap.size := by omega); (try have hj1_g2 : w1.heap.size ≠ g2 := by omega); (try have hk1_g2 : g2 < w1.heap.size + 1 := by omega)
    rw [h]
    have T1 := Lib.hid (T0.out.below hb1)
    go_wp2
    go_loopw [6] (fun v6 wr => ∃ (j : Nat) (p : Int), v6 = .int .i64 p ∧ Pow d j p ∧ TwoAt wr w.heap.size n d ∧ Below w.heap.size w wr) (fun v6 _ => (d - intOf v6).toNat)
    case atStart => exact ⟨0, 1, rfl, Pow.start (by omega), T1.out, by (repeat' (first | (with_reducible exact Below.refl _ _) | (with_reducible assumption) | (with_reducible refine Below.drew ?_) | (with_reducible refine belowDrewN ?_ _) | (with_reducible refine Below.alloc ?_ ?_ _) | (with_reducible refine Below.setCell ?_ ?_ _) | (with_reducible refine belowStep (by assumption) ?_ ?_) | (with_reducible exact Below.size (by assumption)) | go_size))⟩
    case round =>
      obtain ⟨j, p, rfl, hp, hq, hbr⟩ := hrel
      have Hp := Lib.hid hp
      have Hq := Lib.hid hq
      have p1 := hp.2.2.1
      have p2' := hp.2.2.2.1
      clear hp
      obtain ⟨q1, q2, q3, q4, q5⟩ := hq
      by_cases hlt : p < d
      · have Hs := Lib.hid (Hp.out.step d2 hlt)
        go_wp2
        go_roundw
        case rel => exact ⟨j + 1, _, rfl, Hs.out, Hq.out, by (repeat' (first | (with_reducible exact Below.refl _ _) | (with_reducible assumption) | (with_reducible refine Below.drew ?_) | (with_reducible refine belowDrewN ?_ _) | (with_reducible refine Below.alloc ?_ ?_ _) | (with_reducible refine Below.setCell ?_ ?_ _) | (with_reducible refine belowStep (by assumption) ?_ ?_) | (with_reducible exact Below.size (by assumption)) | go_size))⟩
        case measure => simp [intOf]; omega
      · have e := Hp.out.last hlt
        have E2 : Hid (bpN n d = p ∧ bpS n d = n * p / d ∧ bpR n d = n * p % d) := Lib.hid (by rw [E.out.1, E.out.2.1, E.out.2.2, e]; exact ⟨rfl, rfl, rfl⟩)
        obtain ⟨s1, s2, s3, s4, s5, s6, s7, s8⟩ := bp_sizes n1 n2 (by omega) d2 p1 p2'
        have hne : d ≠ 0 := by omega
        clear e
        go_wp2
        all_goals (try go_region)
        all_goals (try go_wp2)
        all_goals refine bodyPost_ret (by simp [results, Tryz.results6, go_sem, *]; try rfl) rfl ?_
        all_goals exact ⟨ret_bp E2.out.1.symm (by first | exact E2.out.2.1.symm | rw [E2.out.2.1, s8]) (by first | exact E2.out.2.2.symm | rw [E2.out.2.2, s7]) rfl, by (repeat' (first | (with_reducible exact Below.refl _ _) | (with_reducible assumption) | (with_reducible refine Below.drew ?_) | (with_reducible refine belowDrewN ?_ _) | (with_reducible refine Below.alloc ?_ ?_ _) | (with_reducible refine Below.setCell ?_ ?_ _) | (with_reducible refine belowStep (by assumption) ?_ ?_) | (with_reducible exact Below.size (by assumption)) | go_size))⟩
set_option maxHeartbeats 4000000 in
theorem meParts_any (n d : Int) (w : World) (h : proB n d = true) : Calls Tryz.prog 15 #[.agg #[.int .i64 n, .int .i64 d]] w (Ret (.tuple #[.int .i64 (p2 d), .int .i64 (n * p2 d / d), .int .i64 (n * p2 d % d)]) w) := by
  obtain ⟨n1, n2, d1, d2, hnd, hg, hgc, hi⟩ := proB_bounds h
  have T0 := Lib.hid (TwoAt.new w n d 25)
  clear hgc hi hg h
  go_enter Tryz.func15, Tryz.ntmps15
  go_wp2
  go_loopw [5] (fun v6 wr => ∃ (j : Nat) (p : Int), v6 = .int .i64 p ∧ Pow d j p ∧ TwoAt wr w.heap.size n d ∧ Below w.heap.size w wr) (fun v6 _ => (d - intOf v6).toNat)
  case atStart => exact ⟨0, 1, rfl, Pow.start (by omega), T0.out, by (repeat' (first | (with_reducible exact Below.refl _ _) | (with_reducible assumption) | (with_reducible refine Below.drew ?_) | (with_reducible refine belowDrewN ?_ _) | (with_reducible refine Below.alloc ?_ ?_ _) | (with_reducible refine Below.setCell ?_ ?_ _) | (with_reducible refine belowStep (by assumption) ?_ ?_) | (with_reducible exact Below.size (by assumption)) | go_size))⟩
  case round =>
    obtain ⟨j, p, rfl, hp, hq, hbr⟩ := hrel
    have Hp := Lib.hid hp
    have Hq := Lib.hid hq
    have p1 := hp.2.2.1
    have p2' := hp.2.2.2.1
    clear hp
    obtain ⟨q1, q2, q3, q4, q5⟩ := hq
    by_cases hlt : p < d
    · have Hs := Lib.hid (Hp.out.step d2 hlt)
      go_wp2
      go_roundw
      case rel => exact ⟨j + 1, _, rfl, Hs.out, Hq.out, by (repeat' (first | (with_reducible exact Below.refl _ _) | (with_reducible assumption) | (with_reducible refine Below.drew ?_) | (with_reducible refine belowDrewN ?_ _) | (with_reducible refine Below.alloc ?_ ?_ _) | (with_reducible refine Below.setCell ?_ ?_ _) | (with_reducible refine belowStep (by assumption) ?_ ?_) | (with_reducible exact Below.size (by assumption)) | go_size))⟩
      case measure => simp [intOf]; omega
    · have e := Hp.out.last hlt
      have E2 := Lib.hid e
      obtain ⟨s1, s2, s3, s4, s5, s6, s7, s8⟩ := bp_sizes n1 n2 (by omega) d2 p1 p2'
      have hne : d ≠ 0 := by omega
      clear e
      go_wp2
      all_goals (try go_region)
      all_goals (try go_wp2)
      all_goals refine bodyPost_ret (by simp [results, Tryz.results15, go_sem, *]; try rfl) rfl ?_
      all_goals (rw [E2.out]; exact ⟨ret_bp3 rfl (by first | rfl | rw [s8]) (by first | rfl | rw [s7]), by (repeat' (first | (with_reducible exact Below.refl _ _) | (with_reducible assumption) | (with_reducible refine Below.drew ?_) | (with_reducible refine belowDrewN ?_ _) | (with_reducible refine Below.alloc ?_ ?_ _) | (with_reducible refine Below.setCell ?_ ?_ _) | (with_reducible refine belowStep (by assumption) ?_ ?_) | (with_reducible exact Below.size (by assumption)) | go_size))⟩)
set_option maxHeartbeats 2000000 in
theorem spec_binaryParts_any (n d : Int) (w : World) : Calls Tryz.prog 7 #[.agg #[.int .i64 n, .int .i64 d]] w (Ret (.tuple #[.int .i64 (bpN n d), .int .i64 (bpS n d), .int .i64 (bpR n d), .bool (proB n d)]) w) := by
  cases h : proB n d with
  | false =>
    have E := Lib.hid (bpR_no h)
    go_enter Tryz.func7, Tryz.ntmps7
    go_wp2_with fail
    refine (meProper_any _ _ _).mono ?_; rintro e w1 ⟨rfl, hb1⟩; obtain ⟨hc1, hf1⟩ := bcellB hb1; have hz1 := hb1.size; (try simp only [World.size_alloc] at hc1 hf1 hz1); (try have hy1_r_0 : wr.heap.size < w1.heap.size := by omega); (try have hn1_r_0 : wr.heap.size ≠ w1.heap.size := by omega); (try have hm1_r_0 : w1.heap.size ≠ wr.heap.size := by omega); (try have hy1_r_1 : wr.heap.size + 1 < w1.heap.size := by omega); (try have hn1_r_1 : wr.heap.size + 1 ≠ w1.heap.size := by omega); (try have hm1_r_1 : w1.heap.size ≠ wr.heap.size + 1 := by omega); (try have hy1_r_2 : wr.heap.size + 1 + 1 < w1.heap.size := by omega); (try have hp1_r_1 : wr.heap.size < w1.heap.size + 1 := by omega); (try have hp1_r_2 : wr.heap.size < w1.heap.size + 1 + 1 := by omega); (try have hy1_0_0 : w.heap.size < w1.heap.size := by omega); (try have hn1_0_0 : w.heap.size ≠ w1.heap.size := by omega); (try have hm1_0_0 : w1.heap.size ≠ w.heap.size := by omega); (try have hy1_0_1 : w.heap.size + 1 < w1.heap.size := by omega); (try have hn1_0_1 : w.heap.size + 1 ≠ w1.heap.size := by omega); (try have hm1_0_1 : w1.heap.size ≠ w.heap.size + 1 := by omega); (try have hy1_0_2 : w.heap.size + 1 + 1 < w1.heap.size := by omega); (try have hp1_0_1 : w.heap.size < w1.heap.size + 1 := by omega); (try have hp1_0_2 : w.heap.size < w1.heap.size + 1 + 1 := by omega); (try have hg1_g1 : g1 < w1.heap.size := by omega); (try have hi1_g1 : g1 ≠ w1.heap.size := by omega); (try have hj1_g1 : w1.heap.size ≠ g1 := by omega); (try have hk1_g1 : g1 < w1.heap.size + 1 := by omega); (try have hg1_g2 : g2 < w1.heap.size := by omega); (try have hi1_g2 : g2 ≠ w1.heap.size := by omega); (try have hj1_g2 : w1.heap.size ≠ g2 := by omega); (try have hk1_g2 : g2 < w1.heap.size + 1 := by omega)
    rw [h]
    go_wp2
    refine bodyPost_ret (by simp [results, Tryz.results7, go_sem, *]; try rfl) rfl ?_
    exact ⟨ret_bp E.out.1.symm E.out.2.1.symm E.out.2.2.symm rfl, by (repeat' (first | (with_reducible exact Below.refl _ _) | (with_reducible assumption) | (with_reducible refine Below.drew ?_) | (with_reducible refine belowDrewN ?_ _) | (with_reducible refine Below.alloc ?_ ?_ _) | (with_reducible refine Below.setCell ?_ ?_ _) | (with_reducible refine belowStep (by assumption) ?_ ?_) | (with_reducible exact Below.size (by assumption)) | go_size))⟩
  | true =>
    have H := Lib.hid h
    have E := Lib.hid (bpR_yes h)
    go_enter Tryz.func7, Tryz.ntmps7
    go_wp2_with fail
    refine (meProper_any _ _ _).mono ?_; rintro e w1 ⟨rfl, hb1⟩; obtain ⟨hc1, hf1⟩ := bcellB hb1; have hz1 := hb1.size; (try simp only [World.size_alloc] at hc1 hf1 hz1); (try have hy1_r_0 : wr.heap.size < w1.heap.size := by omega); (try have hn1_r_0 : wr.heap.size ≠ w1.heap.size := by omega); (try have hm1_r_0 : w1.heap.size ≠ wr.heap.size := by omega); (try have hy1_r_1 : wr.heap.size + 1 < w1.heap.size := by omega); (try have hn1_r_1 : wr.heap.size + 1 ≠ w1.heap.size := by omega); (try have hm1_r_1 : w1.heap.size ≠ wr.heap.size + 1 := by omega); (try have hy1_r_2 : wr.heap.size + 1 + 1 < w1.heap.size := by omega); (try have hp1_r_1 : wr.heap.size < w1.heap.size + 1 := by omega); (try have hp1_r_2 : wr.heap.size < w1.heap.size + 1 + 1 := by omega); (try have hy1_0_0 : w.heap.size < w1.heap.size := by omega); (try have hn1_0_0 : w.heap.size ≠ w1.heap.size := by omega); (try have hm1_0_0 : w1.heap.size ≠ w.heap.size := by omega); (try have hy1_0_1 : w.heap.size + 1 < w1.heap.size := by omega); (try have hn1_0_1 : w.heap.size + 1 ≠ w1.heap.size := by omega); (try have hm1_0_1 : w1.heap.size ≠ w.heap.size + 1 := by omega); (try have hy1_0_2 : w.heap.size + 1 + 1 < w1.heap.size := by omega); (try have hp1_0_1 : w.heap.size < w1.heap.size + 1 := by omega); (try have hp1_0_2 : w.heap.size < w1.heap.size + 1 + 1 := by omega); (try have hg1_g1 : g1 < w1.heap.size := by omega); (try have hi1_g1 : g1 ≠ w1.heap.size := by omega); (try have hj1_g1 : w1.heap.size ≠ g1 := by omega); (try have hk1_g1 : g1 < w1.heap.size + 1 := by omega); (try have hg1_g2 : g2 < w1.heap.size := by omega); (try have hi1_g2 : g2 ≠ w1.heap.size := by omega); (try have hj1_g2 : w1.heap.size ≠ g2 := by omega); (try have hk1_g2 : g2 < w1.heap.size + 1 := by omega)
    rw [h]
    go_wp2_with fail
    refine (meParts_any _ _ _ H.out).mono ?_; rintro e w2 ⟨rfl, hb2⟩; obtain ⟨hc2, hf2⟩ := bcellB hb2; have hz2 := hb2.size; (try simp only [World.size_alloc, World.size_setCell, World.size_drew, World.heap_drewN] at hc2 hf2 hz2); (try have hy2_r_0 : wr.heap.size < w2.heap.size := by omega); (try have hn2_r_0 : wr.heap.size ≠ w2.heap.size := by omega); (try have hm2_r_0 : w2.heap.size ≠ wr.heap.size := by omega); (try have hy2_r_1 : wr.heap.size + 1 < w2.heap.size := by omega); (try have hn2_r_1 : wr.heap.size + 1 ≠ w2.heap.size := by omega); (try have hm2_r_1 : w2.heap.size ≠ wr.heap.size + 1 := by omega); (try have hy2_r_2 : wr.heap.size + 1 + 1 < w2.heap.size := by omega); (try have hp2_r_1 : wr.heap.size < w2.heap.size + 1 := by omega); (try have hp2_r_2 : wr.heap.size < w2.heap.size + 1 + 1 := by omega); (try have hy2_0_0 : w.heap.size < w2.heap.size := by omega); (try have hn2_0_0 : w.heap.size ≠ w2.heap.size := by omega); (try have hm2_0_0 : w2.heap.size ≠ w.heap.size := by omega); (try have hy2_0_1 : w.heap.size + 1 < w2.heap.size := by omega); (try have hn2_0_1 : w.heap.size + 1 ≠ w2.heap.size := by omega); (try have hm2_0_1 : w2.heap.size ≠ w.heap.size + 1 := by omega); (try have hy2_0_2 : w.heap.size + 1 + 1 < w2.heap.size := by omega); (try have hp2_0_1 : w.heap.size < w2.heap.size + 1 := by omega); (try have hp2_0_2 : w.heap.size < w2.heap.size + 1 + 1 := by omega); (try have hy2_1_0 : w1.heap.size < w2.heap.size := by omega); (try have hn2_1_0 : w1.heap.size ≠ w2.heap.size := by omega); (try have hm2_1_0 : w2.heap.size ≠ w1.heap.size := by omega); (try have hy2_1_1 : w1.heap.size + 1 < w2.heap.size := by omega); (try have hn2_1_1 : w1.heap.size + 1 ≠ w2.heap.size := by omega); (try have hm2_1_1 : w2.heap.size ≠ w1.heap.size + 1 := by omega); (try have hy2_1_2 : w1.heap.size + 1 + 1 < w2.heap.size := by omega); (try have hp2_1_1 : w1.heap.size < w2.heap.size + 1 := by omega); (try have hp2_1_2 : w1.heap.size < w2.heap.size + 1 + 1 := by omega); (try have hg2_g1 : g1 < w2.heap.size := by omega); (try have hi2_g1 : g1 ≠ w2.heap.size := by omega); (try have hj2_g1 : w2.heap.size ≠ g1 := by omega); (try have hk2_g1 : g1 < w2.heap.size + 1 := by omega); (try have hg2_g2 : g2 < w2.heap.size := by omega); (try have hi2_g2 : g2 ≠ w2.heap.size := by omega); (try have hj2_g2 : w2.heap.size ≠ g2 := by omega); (try have hk2_g2 : g2 < w2.heap.size + 1 := by omega)
    go_wp2
    refine bodyPost_ret (by simp [results, Tryz.results7, go_sem, *]; try rfl) rfl ?_
    exact ⟨ret_bp E.out.1.symm E.out.2.1.symm E.out.2.2.symm rfl, by (repeat' (first | (with_reducible exact Below.refl _ _) | (with_reducible assumption) | (with_reducible refine Below.drew ?_) | (with_reducible refine belowDrewN ?_ _) | (with_reducible refine Below.alloc ?_ ?_ _) | (with_reducible refine Below.setCell ?_ ?_ _) | (with_reducible refine belowStep (by assumption) ?_ ?_) | (with_reducible exact Below.size (by assumption)) | go_size))⟩
end Go.Proofs.YtbjblkfibinenacGreat
