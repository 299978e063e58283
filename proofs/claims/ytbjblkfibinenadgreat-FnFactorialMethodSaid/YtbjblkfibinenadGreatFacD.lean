
/-
  Contracts of the digits by factorials, in the program and in the model.
-/
import Derived.Test.YtbjblkfibinenadGreatFacC
import Derived.Test.YtbjblkfibinenadGreatApp
import Derived.Test.YtbjblkfibinenadGreatLists
namespace Go.Proofs.YtbjblkfibinenadGreat
open Go.RowKit
theorem OwnI.oneDig (w : World) (base : Nat) (x : Int) (hb : base ≤ w.heap.size) : OwnI (w.alloc (.cells #[.int .i64 x] 3)) base (.slice (some ⟨w.heap.size, 0, none⟩) 1 1) [x] :=
  World.ownsRow_lit w #[.int .i64 x] 1 hb (by unfold maxLen; omega) rfl
/-- the digits from the last one on -/
theorem zeros_set (k : Nat) (ys : List Int) (x : Int) : (List.replicate (k + 1) (0 : Int) ++ ys).set k x = List.replicate k 0 ++ (x :: ys) := by
  rw [List.replicate_succ', List.append_assoc, List.set_append_right _ _ (by simp)]
  simp
theorem zeros_at (k : Nat) (ys : List Int) : (List.replicate (k + 1) (0 : Int) ++ ys)[k]? = some 0 := by
  rw [List.getElem?_append_left (by simp), List.getElem?_replicate, if_pos (by omega)]
theorem dig_in {i : Nat} {left : Int} (hi : 2 ≤ i) (h0 : 0 ≤ left) (h1 : left ≤ 479001600) : 0 ≤ left % (i : Int) ∧ left % (i : Int) ≤ 479001600 ∧ left.tmod (i : Int) = left % (i : Int) ∧ left.tdiv (i : Int) = left / (i : Int) ∧ 0 ≤ left / (i : Int) ∧ left / (i : Int) ≤ 479001600 := by
  have a := Int.emod_nonneg left (show (i : Int) ≠ 0 by omega)
  have b := Int.ediv_nonneg h0 (show (0 : Int) ≤ i by omega)
  have c := Int.ediv_le_self (i : Int) h0
  have d := Int.mul_ediv_add_emod left i
  have e : 0 ≤ (i : Int) * (left / i) := Int.mul_nonneg (by omega) b
  exact ⟨a, by omega, Int.tmod_eq_emod_of_nonneg h0, Int.tdiv_eq_ediv_of_nonneg h0, b, by omega⟩
theorem fdO_no {n d : Int} (h : fdB n d = false) : fdO n d = none := by unfold fdO; rw [h]; rfl
theorem fdO_yes {n d : Int} (hp : proB n d = true) (h : leastF d ≠ 0) : fdO n d = some (fdL n d) := by
  unfold fdO fdB
  rw [hp, decide_eq_true h]
  rfl
theorem fdO_pro {n d : Int} (h : proB n d = false) : fdO n d = none := fdO_no (by unfold fdB; rw [h]; rfl)
theorem fdO_zero {n d : Int} (h : leastF d = 0) : fdO n d = none := fdO_no (by unfold fdB; rw [h]; simp)
theorem fdO_len (n d : Int) : ((fdO n d).getD []).length ≤ 11 := by
  unfold fdO
  split
  · rename_i h
    unfold fdB at h
    simp only [Bool.and_eq_true, decide_eq_true_eq] at h
    obtain ⟨m, _, m12, _, _, _, _, _, hL, _⟩ := fd_start h.1 h.2
    rw [hL]
    simp only [Option.getD_some, digL_len]
    omega
  · simp
set_option maxHeartbeats 4000000 in
theorem meDigits_any (n d : Int) (w : World) (hp : proB n d = true) (h0 : leastF d ≠ 0) : Calls Tryz.prog 46 #[.agg #[.int .i64 n, .int .i64 d]] w (RetL (fdL n d) w) := by
  obtain ⟨n1, n2, d1, d2, hnd, hg, hgc, hi⟩ := proB_bounds hp
  obtain ⟨m, m2, m12, hm, q1, q2, l0, l1, hL, hdq⟩ := fd_start hp h0
  have hf := fac_in m12
  have HL := Lib.hid fun (w : World) => meLeast_any d w (by omega)
  rw [hm] at HL
  have HF := Lib.hid fun (w : World) => meFactorial_any m w m12
  have T0 := Lib.hid (TwoAt.new w n d 25)
  have HLL := Lib.hid hL
  have hne : d ≠ 0 := by omega
  have htd : (fac m).tdiv d = fac m / d := Int.tdiv_eq_ediv_of_nonneg (by omega)
  have E3 : Hid (IntKind.i64.wrap (n * IntKind.i64.wrap (fac m / d)) = n * (fac m / d)) := Lib.hid (by rw [IntWalk.i64_in (fac m / d) (by omega)]; exact IntWalk.i64_in _ (by omega))
  clear hg hgc hi hp h0 hm hL hdq
  go_enter Tryz.func46, Tryz.ntmps46
  go_wp2_with fail
  refine (HL.out _).mono ?_; rintro e w1 ⟨rfl, k1, rfl⟩
  go_upto_region 2 with fail
  go_cut [4] (fun s4 wx => s4 = .int .i64 (n * (fac m / d)) ∧ Below w.heap.size w wx)
  case first =>
    go_region_with (first | (go_at_call 47; refine (HF.out _).mono ?_; rintro e w1 ⟨rfl, k1, rfl⟩))
    all_goals go_wp2_with fail
    all_goals go_meet
    all_goals exact ⟨by first | rfl | (rw [E3.out]; done) | (simp [*]; exact E3.out), by (repeat' (first | (with_reducible exact Below.refl _ _) | (with_reducible assumption) | (with_reducible refine Below.drew ?_) | (with_reducible refine belowDrewN ?_ _) | (with_reducible refine Below.alloc ?_ ?_ _) | (with_reducible refine Below.setCell ?_ ?_ _) | (with_reducible refine belowStep (by assumption) ?_ ?_) | (with_reducible exact Below.size (by assumption)) | go_size))⟩
  case rest =>
    obtain ⟨w2, rfl⟩ : ∃ w2 : World, w2 = wc := ⟨_, rfl⟩
    obtain ⟨rfl, hb2⟩ := hcut
    have hz2 := hb2.size
    go_wp2
    go_loopw [4, 5, 6] (fun v4 v5 v6 wr => ∃ (i : Nat) (left : Int) (ys : List Int), 1 ≤ i ∧ i ≤ m ∧ v4 = .int .i64 left ∧ v6 = .int .i64 (i : Int) ∧ 0 ≤ left ∧ left ≤ 479001600 ∧ digL m (n * (fac m / d)) = digL i left ++ ys ∧ ys.length ≤ 12 ∧ (∃ A c, v5 = .slice A ys.length c) ∧ OwnI wr w.heap.size v5 ys ∧ Below w.heap.size w wr) (fun _ _ v6 _ => (intOf v6).toNat)
    case atStart => exact ⟨m, _, [], by omega, Nat.le_refl _, rfl, rfl, by omega, by omega, by simp, by simp, ⟨_, _, rfl⟩, OwnI.empty _ _, by (repeat' (first | (with_reducible exact Below.refl _ _) | (with_reducible assumption) | (with_reducible refine Below.drew ?_) | (with_reducible refine belowDrewN ?_ _) | (with_reducible refine Below.alloc ?_ ?_ _) | (with_reducible refine Below.setCell ?_ ?_ _) | (with_reducible refine belowStep (by assumption) ?_ ?_) | (with_reducible exact Below.size (by assumption)) | go_size))⟩
    case round =>
      obtain ⟨i, left, ys, i1, i2, rfl, rfl, k0, k1, hd, hyl, ⟨A, c, rfl⟩, ho, hbr⟩ := hrel
      have Hd := Lib.hid hd
      have Ho := Lib.hid ho
      have hzr := hbr.size
      clear hd ho
      by_cases h2 : 2 ≤ i
      · obtain ⟨e1, e2, e3, e4, e5, e6⟩ := dig_in h2 k0 k1
        have hs := digL_step h2 left
        have Hs : Hid (digL m (n * (fac m / d)) = digL (i - 1) (left / (i : Int)) ++ ([left % (i : Int)] ++ ys)) := Lib.hid (by rw [Hd.out, hs, List.append_assoc])
        have hl2 := digL_len m (n * (fac m / d))
        rw [Hs.out, List.length_append, List.length_append, List.length_singleton] at hl2
        have hne2 : (i : Int) ≠ 0 := by omega
        have O1 := Lib.hid (OwnI.oneDig wr w.heap.size (left % (i : Int)) hbr.size)
        obtain ⟨A0, c0, e0, hr0⟩ := Ho.out.form
        injection e0 with e01 e02 e03
        subst e01
        have Hr0 := Lib.hid hr0
        clear hs hr0
        go_wp2_with (at_builtin; refine wpList_app _ (o := ⟨some 28, _, _, _, _, _⟩) (ys := ys) rfl _ _ rfl rfl (O1.out) (ys.length) (c) (by first | (simp; done) | (simp; omega)) rfl (Hr0.out.below (by (repeat' (first | (with_reducible exact Below.refl _ _) | (with_reducible assumption) | (with_reducible refine Below.drew ?_) | (with_reducible refine belowDrewN ?_ _) | (with_reducible refine Below.alloc ?_ ?_ _) | (with_reducible refine Below.setCell ?_ ?_ _) | (with_reducible refine belowStep (by assumption) ?_ ?_) | (with_reducible exact Below.size (by assumption)) | go_size)))) (by (try simp only [List.length_nil, List.length_cons]); omega) (by first | exact Nat.le_refl _ | ((try simp only [World.size_alloc]); omega)) ?_; intro v3 w3 ho3 hb3 hg3 ht3; clear hg3 ht3; have hz3 := hb3.size; (try simp only [World.size_alloc] at hz3))
        obtain ⟨A3, c3, rfl, hr3⟩ := ho3.form
        go_roundw
        case rel => exact ⟨i - 1, left / (i : Int), [left % (i : Int)] ++ ys, by omega, by omega, rfl, by go_num, e5, e6, Hs.out, by simp; omega, ⟨A3, c3, rfl⟩, ho3, by (repeat' (first | (with_reducible exact Below.refl _ _) | (with_reducible assumption) | (with_reducible refine Below.drew ?_) | (with_reducible refine belowDrewN ?_ _) | (with_reducible refine Below.alloc ?_ ?_ _) | (with_reducible refine Below.setCell ?_ ?_ _) | (with_reducible refine belowStep (by assumption) ?_ ?_) | (with_reducible exact Below.size (by assumption)) | go_size))⟩
        case measure => simp [intOf]; omega
      · obtain rfl : i = 1 := by omega
        have E : Hid (fdL n d = ys) := Lib.hid (by rw [HLL.out, Hd.out]; rfl)
        go_wp2
        go_ret
        rw [E.out]
        exact ⟨_, rfl, Ho.out, hbr⟩
set_option maxHeartbeats 2000000 in
theorem spec_factorialDigits_any (n d : Int) (w : World) : Calls Tryz.prog 18 #[.agg #[.int .i64 n, .int .i64 d]] w (RetRB ((fdO n d).getD []) (fdO n d).isSome w) := by
  cases h : proB n d with
  | false =>
    have E := Lib.hid (fdO_pro h)
    go_enter Tryz.func18, Tryz.ntmps18
    go_wp2_with (go_at_call 37; refine (meProper_any _ _ _).mono ?_; rintro e w1 ⟨rfl, hb1⟩; obtain ⟨hc1, hf1⟩ := bcellB hb1; have hz1 := hb1.size; (try simp only [World.size_alloc] at hc1 hf1 hz1); (try have hy1_r_0 : wr.heap.size < w1.heap.size := by omega); (try have hn1_r_0 : wr.heap.size ≠ w1.heap.size := by omega); (try have hm1_r_0 : w1.heap.size ≠ wr.heap.size := by omega); (try have hy1_r_1 : wr.heap.size + 1 < w1.heap.size := by omega); (try have hn1_r_1 : wr.heap.size + 1 ≠ w1.heap.size := by omega); (try have hm1_r_1 : w1.heap.size ≠ wr.heap.size + 1 := by omega); (try have hy1_r_2 : wr.heap.size + 1 + 1 < w1.heap.size := by omega); (try have hp1_r_1 : wr.heap.size < w1.heap.size + 1 := by omega); (try have hp1_r_2 : wr.heap.size < w1.heap.size + 1 + 1 := by omega); (try have hy1_0_0 : w.heap.size < w1.heap.size := by omega); (try have hn1_0_0 : w.heap.size ≠ w1.heap.size := by omega); (try have hm1_0_0 : w1.heap.size ≠ w.heap.size := by omega); (try have hy1_0_1 : w.heap.size + 1 < w1.heap.size := by omega); (try have hn1_0_1 : w.heap.size + 1 ≠ w1.heap.size := by omega); (try have hm1_0_1 : w1.heap.size ≠ w.heap.size + 1 := by omega); (try have hy1_0_2 : w.heap.size + 1 + 1 < w1.heap.size := by omega); (try have hp1_0_1 : w.heap.size < w1.heap.size + 1 := by omega); (try have hp1_0_2 : w.heap.size < w1.heap.size + 1 + 1 := by omega); (try have hg1_g1 : g1 < w1.heap.size := by omega); (try have hi1_g1 : g1 ≠ w1.heap.size := by omega); (try have hj1_g1 : w1.heap.size ≠ g1 := by omega); (try have hk1_g1 : g1 < w1.heap.size + 1 := by omega); (try have hg1_g2 : g2 < w1.heap.size := by omega); (try have hi1_g2 : g2 ≠ w1.heap.size := by omega); (try have hj1_g2 : w1.heap.size ≠ g2 := by omega); (try have hk1_g2 : g2 < w1.heap.size + 1 := by omega))
    go_ret2
    rw [E.out]
    exact ⟨none, 0, rfl, Reads.nil, by (repeat' (first | (with_reducible exact Below.refl _ _) | (with_reducible assumption) | (with_reducible refine Below.drew ?_) | (with_reducible refine belowDrewN ?_ _) | (with_reducible refine Below.alloc ?_ ?_ _) | (with_reducible refine Below.setCell ?_ ?_ _) | (with_reducible refine belowStep (by assumption) ?_ ?_) | (with_reducible exact Below.size (by assumption)) | go_size))⟩
  | true =>
    have hd2 := (proB_bounds h).2.2.1
    have HL := Lib.hid fun (w : World) => meLeast_any d w (by omega)
    by_cases h0 : leastF d = 0
    · have E := Lib.hid (fdO_zero (n := n) h0)
      rw [h0] at HL
      go_enter Tryz.func18, Tryz.ntmps18
      go_wp2_with (first | (go_at_call 37; refine (meProper_any _ _ _).mono ?_; rintro e w1 ⟨rfl, hb1⟩; obtain ⟨hc1, hf1⟩ := bcellB hb1; have hz1 := hb1.size; (try simp only [World.size_alloc] at hc1 hf1 hz1); (try have hy1_r_0 : wr.heap.size < w1.heap.size := by omega); (try have hn1_r_0 : wr.heap.size ≠ w1.heap.size := by omega); (try have hm1_r_0 : w1.heap.size ≠ wr.heap.size := by omega); (try have hy1_r_1 : wr.heap.size + 1 < w1.heap.size := by omega); (try have hn1_r_1 : wr.heap.size + 1 ≠ w1.heap.size := by omega); (try have hm1_r_1 : w1.heap.size ≠ wr.heap.size + 1 := by omega); (try have hy1_r_2 : wr.heap.size + 1 + 1 < w1.heap.size := by omega); (try have hp1_r_1 : wr.heap.size < w1.heap.size + 1 := by omega); (try have hp1_r_2 : wr.heap.size < w1.heap.size + 1 + 1 := by omega); (try have hy1_0_0 : w.heap.size < w1.heap.size := by omega); (try have hn1_0_0 : w.heap.size ≠ w1.heap.size := by omega); (try have hm1_0_0 : w1.heap.size ≠ w.heap.size := by omega); (try have hy1_0_1 : w.heap.size + 1 < w1.heap.size := by omega); (try have hn1_0_1 : w.heap.size + 1 ≠ w1.heap.size := by omega); (try have hm1_0_1 : w1.heap.size ≠ w.heap.size + 1 := by omega); (try have hy1_0_2 : w.heap.size + 1 + 1 < w1.heap.size := by omega); (try have hp1_0_1 : w.heap.size < w1.heap.size + 1 := by omega); (try have hp1_0_2 : w.heap.size < w1.heap.size + 1 + 1 := by omega); (try have hg1_g1 : g1 < w1.heap.size := by omega); (try have hi1_g1 : g1 ≠ w1.heap.size := by omega); (try have hj1_g1 : w1.heap.size ≠ g1 := by omega); (try have hk1_g1 : g1 < w1.heap.size + 1 := by omega); (try have hg1_g2 : g2 < w1.heap.size := by omega); (try have hi1_g2 : g2 ≠ w1.heap.size := by omega); (try have hj1_g2 : w1.heap.size ≠ g2 := by omega); (try have hk1_g2 : g2 < w1.heap.size + 1 := by omega)) | (go_at_call 45; refine (HL.out _).mono ?_; rintro e w1 ⟨rfl, k1, rfl⟩))
      go_ret2
      rw [E.out]
      exact ⟨none, 0, rfl, Reads.nil, by (repeat' (first | (with_reducible exact Below.refl _ _) | (with_reducible assumption) | (with_reducible refine Below.drew ?_) | (with_reducible refine belowDrewN ?_ _) | (with_reducible refine Below.alloc ?_ ?_ _) | (with_reducible refine Below.setCell ?_ ?_ _) | (with_reducible refine belowStep (by assumption) ?_ ?_) | (with_reducible exact Below.size (by assumption)) | go_size))⟩
    · have E := Lib.hid (fdO_yes h h0)
      have hz : (leastF d == 0) = false := by simp [h0]
      have HM := Lib.hid fun (w : World) => meDigits_any n d w h h0
      go_enter Tryz.func18, Tryz.ntmps18
      go_wp2_with (first | (go_at_call 37; refine (meProper_any _ _ _).mono ?_; rintro e w1 ⟨rfl, hb1⟩; obtain ⟨hc1, hf1⟩ := bcellB hb1; have hz1 := hb1.size; (try simp only [World.size_alloc] at hc1 hf1 hz1); (try have hy1_r_0 : wr.heap.size < w1.heap.size := by omega); (try have hn1_r_0 : wr.heap.size ≠ w1.heap.size := by omega); (try have hm1_r_0 : w1.heap.size ≠ wr.heap.size := by omega); (try have hy1_r_1 : wr.heap.size + 1 < w1.heap.size := by omega); (try have hn1_r_1 : wr.heap.size + 1 ≠ w1.heap.size := by omega); (try have hm1_r_1 : w1.heap.size ≠ wr.heap.size + 1 := by omega); (try have hy1_r_2 : wr.heap.size + 1 + 1 < w1.heap.size := by omega); (try have hp1_r_1 : wr.heap.size < w1.heap.size + 1 := by omega); (try have hp1_r_2 : wr.heap.size < w1.heap.size + 1 + 1 := by omega); (try have hy1_0_0 : w.heap.size < w1.heap.size := by omega); (try have hn1_0_0 : w.heap.size ≠ w1.heap.size := by omega); (try have hm1_0_0 : w1.heap.size ≠ w.heap.size := by omega); (try have hy1_0_1 : w.heap.size + 1 < w1.heap.size := by omega); (try have hn1_0_1 : w.heap.size + 1 ≠ w1.heap.size := by omega); (try have hm1_0_1 : w1.heap.size ≠ w.heap.size + 1 := by omega); (try have hy1_0_2 : w.heap.size + 1 + 1 < w1.heap.size := by omega); (try have hp1_0_1 : w.heap.size < w1.heap.size + 1 := by omega); (try have hp1_0_2 : w.heap.size < w1.heap.size + 1 + 1 := by omega); (try have hg1_g1 : g1 < w1.heap.size := by omega); (try have hi1_g1 : g1 ≠ w1.heap.size := by omega); (try have hj1_g1 : w1.heap.size ≠ g1 := by omega); (try have hk1_g1 : g1 < w1.heap.size + 1 := by omega); (try have hg1_g2 : g2 < w1.heap.size := by omega); (try have hi1_g2 : g2 ≠ w1.heap.size := by omega); (try have hj1_g2 : w1.heap.size ≠ g2 := by omega); (try have hk1_g2 : g2 < w1.heap.size + 1 := by omega)) | (go_at_call 45; refine (HL.out _).mono ?_; rintro e w1 ⟨rfl, k1, rfl⟩))
      refine (HM.out _).mono ?_; rintro e w3 ⟨v3, rfl, ho3, hb3⟩; obtain ⟨A3, c3, rfl, hr3⟩ := ho3.form
      have hz3 := hb3.size
      go_wp2
      go_ret2
      rw [E.out]
      exact ⟨_, _, rfl, hr3, by (repeat' (first | (with_reducible exact Below.refl _ _) | (with_reducible assumption) | (with_reducible refine Below.drew ?_) | (with_reducible refine belowDrewN ?_ _) | (with_reducible refine Below.alloc ?_ ?_ _) | (with_reducible refine Below.setCell ?_ ?_ _) | (with_reducible refine belowStep (by assumption) ?_ ?_) | (with_reducible exact Below.size (by assumption)) | go_size))⟩
end Go.Proofs.YtbjblkfibinenadGreat
