import Derived.Test.YtbjblkfibinenadGreatDoorPk21
import Derived.Test.YtbjblkfibinenadGreatDoorPk1
import Derived.Test.YtbjblkfibinenadGreatDoorPk2
import Derived.Deep.OwnRows
import Derived.Test.YtbjblkfibinenadGreatDoorPk19
import Derived.Test.YtbjblkfibinenadGreatDoorPk15

/-
  Contracts of the digits by factorials, in the program and in the model.
-/
namespace Go.Proofs.YtbjblkfibinenadGreatDoor
open Go.RowKit
theorem OwnI.oneDig (w : World) (base : Nat) (x : Int) (hb : base ≤ w.heap.size) : OwnI (w.alloc (.cells #[.int .i64 x] 3)) base (.slice (some ⟨w.heap.size, 0, none⟩) 1 1) [x] :=
  World.ownsRow_lit w #[.int .i64 x] 1 hb (by unfold maxLen; omega) rfl
/-- the digits from the last one on -/
theorem zeros_set (k : Nat) (ys : List Int) (x : Int) : (List.replicate (k + 1) (0 : Int) ++ ys).set k x = List.replicate k 0 ++ (x :: ys) := by
  rw [List.replicate_succ', List.append_assoc, List.set_append_right _ _ (by simp)]
  simp
theorem zeros_at (k : Nat) (ys : List Int) : (List.replicate (k + 1) (0 : Int) ++ ys)[k]? = some 0 := by
  rw [List.getElem?_append_left (by simp), List.getElem?_replicate, if_pos (by omega)]
theorem dig_in {i : Nat} {left : Int} (hi : 2 ≤ i) (h0 : 0 ≤ left) (h1 : left ≤ 479001600) : 0 ≤ left % (i : Int) ∧ left % (i : Int) ≤ 479001600 ∧ left.tmod (i : Int) = left % (i : Int) ∧ left.tdiv (i : Int) = left / (i : Int) ∧ 0 ≤ left / (i : Int) ∧ left / (i : Int) ≤ 479001600 := by
  have a := Int.emod_nonneg left (show (i : Int) ≠ 0 by omega)
  have b := Int.ediv_nonneg h0 (show (0 : Int) ≤ i by omega)
  have c := Int.ediv_le_self (i : Int) h0
  have d := Int.mul_ediv_add_emod left i
  have e : 0 ≤ (i : Int) * (left / i) := Int.mul_nonneg (by omega) b
  exact ⟨a, by omega, Int.tmod_eq_emod_of_nonneg h0, Int.tdiv_eq_ediv_of_nonneg h0, b, by omega⟩
theorem fdO_no {n d : Int} (h : fdB n d = false) : fdO n d = none := by unfold fdO; rw [h]; rfl
theorem fdO_yes {n d : Int} (hp : proB n d = true) (h : leastF d ≠ 0) : fdO n d = some (fdL n d) := by
  unfold fdO fdB
  rw [hp, decide_eq_true h]
  rfl
theorem fdO_pro {n d : Int} (h : proB n d = false) : fdO n d = none := fdO_no (by unfold fdB; rw [h]; rfl)
theorem fdO_zero {n d : Int} (h : leastF d = 0) : fdO n d = none := fdO_no (by unfold fdB; rw [h]; simp)
theorem fdO_len (n d : Int) : ((fdO n d).getD []).length ≤ 11 := by
  unfold fdO
  split
  · rename_i h
    unfold fdB at h
    simp only [Bool.and_eq_true, decide_eq_true_eq] at h
    obtain ⟨m, _, m12, _, _, _, _, _, hL, _⟩ := fd_start h.1 h.2
    rw [hL]
    simp only [Option.getD_some, digL_len]
    omega
  · simp
set_option maxHeartbeats 4000000 in
theorem meDigits_any (n d : Int) (w : World) (hp : proB n d = true) (h0 : leastF d ≠ 0) : Calls Tryz.prog 65 #[.agg #[.int .i64 n, .int .i64 d]] w (RetL (fdL n d) w) := by
  obtain ⟨n1, n2, d1, d2, hnd, hg, hgc, hi⟩ := proB_bounds hp
  obtain ⟨m, m2, m12, hm, q1, q2, l0, l1, hL, hdq⟩ := fd_start hp h0
  have hf := fac_in m12
  have HL := Lib.hid fun (w : World) => meLeast_any d w (by omega)
  rw [hm] at HL
  have HF := Lib.hid fun (w : World) => meFactorial_any m w m12
  have T0 := Lib.hid (TwoAt.new w n d 27)
  have HLL := Lib.hid hL
  have hne : d ≠ 0 := by omega
  have htd : (fac m).tdiv d = fac m / d := Int.tdiv_eq_ediv_of_nonneg (by omega)
  have E3 : Hid (IntKind.i64.wrap (n * IntKind.i64.wrap (fac m / d)) = n * (fac m / d)) := Lib.hid (by rw [IntWalk.i64_in (fac m / d) (by omega)]; exact IntWalk.i64_in _ (by omega))
  clear hg hgc hi hp h0 hm hL hdq
  go_enter Tryz.func65, Tryz.ntmps65
  go_wp2_with fail
  refine (HL.out _).mono ?_; rintro e w1 ⟨rfl, k1, rfl⟩
  go_upto_region 2 with fail
  go_cut [4] (fun s4 wx => s4 = .int .i64 (n * (fac m / d)) ∧ Below w.heap.size w wx)
  case first =>
    go_region_with (first | (go_at_call 66; refine (HF.out _).mono ?_; rintro e w1 ⟨rfl, k1, rfl⟩))
    all_goals go_wp2_with fail
    all_goals go_meet
    all_goals exact ⟨by first | rfl | (rw [E3.out]; done) | (simp [*]; exact E3.out), by (repeat' (first | (with_reducible exact Below.refl _ _) | (with_reducible assumption) | (with_reducible refine Below.drew ?_) | (with_reducible refine belowDrewN ?_ _) | (with_reducible refine Below.alloc ?_ ?_ _) | (with_reducible refine Below.setCell ?_ ?_ _) | (with_reducible refine belowStep (by assumption) ?_ ?_) | (with_reducible exact Below.size (by assumption)) | go_size))⟩
  case rest =>
    obtain ⟨w2, rfl⟩ : ∃ w2 : World, w2 = wc := ⟨_, rfl⟩
    obtain ⟨rfl, hb2⟩ := hcut
    have hz2 := hb2.size
    go_wp2
    go_loopw [4, 5, 6] (fun v4 v5 v6 wr => ∃ (i : Nat) (left : Int) (ys : List Int), 1 ≤ i ∧ i ≤ m ∧ v4 = .int .i64 left ∧ v6 = .int .i64 (i : Int) ∧ 0 ≤ left ∧ left ≤ 479001600 ∧ digL m (n * (fac m / d)) = digL i left ++ ys ∧ ys.length ≤ 12 ∧ (∃ A c, v5 = .slice A ys.length c) ∧ OwnI wr w.heap.size v5 ys ∧ Below w.heap.size w wr) (fun _ _ v6 _ => (intOf v6).toNat)
    case atStart => exact ⟨m, _, [], by omega, Nat.le_refl _, rfl, rfl, by omega, by omega, by simp, by simp, ⟨_, _, rfl⟩, OwnI.empty _ _, by (repeat' (first | (with_reducible exact Below.refl _ _) | (with_reducible assumption) | (with_reducible refine Below.drew ?_) | (with_reducible refine belowDrewN ?_ _) | (with_reducible refine Below.alloc ?_ ?_ _) | (with_reducible refine Below.setCell ?_ ?_ _) | (with_reducible refine belowStep (by assumption) ?_ ?_) | (with_reducible exact Below.size (by assumption)) | go_size))⟩
    case round =>
      obtain ⟨i, left, ys, i1, i2, rfl, rfl, k0, k1, hd, hyl, ⟨A, c, rfl⟩, ho, hbr⟩ := hrel
      have Hd := Lib.hid hd
      have Ho := Lib.hid ho
      have hzr := hbr.size
      clear hd ho
      by_cases h2 : 2 ≤ i
      · obtain ⟨e1, e2, e3, e4, e5, e6⟩ := dig_in h2 k0 k1
        have hs := digL_step h2 left
        have Hs : Hid (digL m (n * (fac m / d)) = digL (i - 1) (left / (i : Int)) ++ ([left % (i : Int)] ++ ys)) := Lib.hid (by rw [Hd.out, hs, List.append_assoc])
        have hl2 := digL_len m (n * (fac m / d))
        rw [Hs.out, List.length_append, List.length_append, List.length_singleton] at hl2
        have hne2 : (i : Int) ≠ 0 := by omega
        have O1 := Lib.hid (OwnI.oneDig wr w.heap.size (left % (i : Int)) hbr.size)
        obtain ⟨A0, c0, e0, hr0⟩ := Ho.out.form
        injection e0 with e01 e02 e03
        subst e01
        have Hr0 := Lib.hid hr0
        clear hs hr0
        go_wp2_with (at_builtin; refine wpList_app _ (o := ⟨some 28, _, _, _, _, _⟩) (ys := ys) rfl _ _ rfl rfl (O1.out) (ys.length) (c) (by first | (simp; done) | (simp; omega)) rfl (Hr0.out.below (by (repeat' (first | (with_reducible exact Below.refl _ _) | (with_reducible assumption) | (with_reducible refine Below.drew ?_) | (with_reducible refine belowDrewN ?_ _) | (with_reducible refine Below.alloc ?_ ?_ _) | (with_reducible refine Below.setCell ?_ ?_ _) | (with_reducible refine belowStep (by assumption) ?_ ?_) | (with_reducible exact Below.size (by assumption)) | go_size)))) (by (try simp only [List.length_nil, List.length_cons]); omega) (by first | exact Nat.le_refl _ | ((try simp only [World.size_alloc]); omega)) ?_; intro v3 w3 ho3 hb3 hg3 ht3; clear hg3 ht3; have hz3 := hb3.size; (try simp only [World.size_alloc] at hz3))
        obtain ⟨A3, c3, rfl, hr3⟩ := ho3.form
        go_roundw
        case rel => exact ⟨i - 1, left / (i : Int), [left % (i : Int)] ++ ys, by omega, by omega, rfl, by go_num, e5, e6, Hs.out, by simp; omega, ⟨A3, c3, rfl⟩, ho3, by (repeat' (first | (with_reducible exact Below.refl _ _) | (with_reducible assumption) | (with_reducible refine Below.drew ?_) | (with_reducible refine belowDrewN ?_ _) | (with_reducible refine Below.alloc ?_ ?_ _) | (with_reducible refine Below.setCell ?_ ?_ _) | (with_reducible refine belowStep (by assumption) ?_ ?_) | (with_reducible exact Below.size (by assumption)) | go_size))⟩
        case measure => simp [intOf]; omega
      · obtain rfl : i = 1 := by omega
        have E : Hid (fdL n d = ys) := Lib.hid (by rw [HLL.out, Hd.out]; rfl)
        go_wp2
        go_ret
        rw [E.out]
        exact ⟨_, rfl, Ho.out, hbr⟩
end Go.Proofs.YtbjblkfibinenadGreatDoor


/-
  The contract of the program's digits by factorials.
-/
namespace Go.Proofs.YtbjblkfibinenadGreatDoor
open Go.RowKit
theorem OwnI.atBlock {w : World} {base g k : Nat} (hb : base ≤ g) (hk : k ≤ 1000) (h : w.heap[g]? = some (.cells (madeCells #[.int .i64 0] k) 3)) : OwnI w base (.slice (some ⟨g, 0, none⟩) k k) (List.replicate k 0) := by
  unfold OwnI
  rw [List.length_replicate]
  refine ⟨by simp, .inr ⟨g, k, _, rfl, hb, h, Nat.le_refl _, by unfold maxLen; omega, by simp [madeCells], ?_⟩⟩
  rw [toList_madeCells_one, Nat.mul_one, List.map_replicate]
  exact List.take_of_length_le (by simp)
set_option maxHeartbeats 4000000 in
theorem factorialDigits_any (n d : Int) (w : World) (rn : -9223372036854775808 ≤ n ∧ n ≤ 9223372036854775807) (rd : -9223372036854775808 ≤ d ∧ d ≤ 9223372036854775807) : Calls Tryz.prog 138 #[.agg #[.int .i64 n, .int .i64 d]] w (RetLB ((fdO n d).getD []) (fdO n d).isSome w) := by
  cases h : proB n d with
  | false =>
    have E := Lib.hid (fdO_pro h)
    go_enter Tryz.func138, Tryz.ntmps138
    go_wp2_with fail
    refine (isProper_any _ _ _ rn rd).mono ?_; rintro e w1 ⟨rfl, hb1⟩; obtain ⟨hc1, hf1⟩ := bcellB hb1; have hz1 := hb1.size; (try simp only [World.size_alloc] at hc1 hf1 hz1); (try have hy1_r_0 : wr.heap.size < w1.heap.size := by omega); (try have hn1_r_0 : wr.heap.size ≠ w1.heap.size := by omega); (try have hm1_r_0 : w1.heap.size ≠ wr.heap.size := by omega); (try have hy1_r_1 : wr.heap.size + 1 < w1.heap.size := by omega); (try have hn1_r_1 : wr.heap.size + 1 ≠ w1.heap.size := by omega); (try have hm1_r_1 : w1.heap.size ≠ wr.heap.size + 1 := by omega); (try have hy1_r_2 : wr.heap.size + 1 + 1 < w1.heap.size := by omega); (try have hp1_r_1 : wr.heap.size < w1.heap.size + 1 := by omega); (try have hp1_r_2 : wr.heap.size < w1.heap.size + 1 + 1 := by omega); (try have hy1_0_0 : w.heap.size < w1.heap.size := by omega); (try have hn1_0_0 : w.heap.size ≠ w1.heap.size := by omega); (try have hm1_0_0 : w1.heap.size ≠ w.heap.size := by omega); (try have hy1_0_1 : w.heap.size + 1 < w1.heap.size := by omega); (try have hn1_0_1 : w.heap.size + 1 ≠ w1.heap.size := by omega); (try have hm1_0_1 : w1.heap.size ≠ w.heap.size + 1 := by omega); (try have hy1_0_2 : w.heap.size + 1 + 1 < w1.heap.size := by omega); (try have hp1_0_1 : w.heap.size < w1.heap.size + 1 := by omega); (try have hp1_0_2 : w.heap.size < w1.heap.size + 1 + 1 := by omega); (try have hg1_g1 : g1 < w1.heap.size := by omega); (try have hi1_g1 : g1 ≠ w1.heap.size := by omega); (try have hj1_g1 : w1.heap.size ≠ g1 := by omega); (try have hk1_g1 : g1 < w1.heap.size + 1 := by omega); (try have hg1_g2 : g2 < w1.heap.size := by omega); (try have hi1_g2 : g2 ≠ w1.heap.size := by omega); (try have hj1_g2 : w1.heap.size ≠ g2 := by omega); (try have hk1_g2 : g2 < w1.heap.size + 1 := by omega)
    rw [h]
    go_wp2
    go_ret2
    rw [E.out]
    exact ⟨_, rfl, OwnI.empty _ _, by (repeat' (first | (with_reducible exact Below.refl _ _) | (with_reducible assumption) | (with_reducible refine Below.drew ?_) | (with_reducible refine belowDrewN ?_ _) | (with_reducible refine Below.alloc ?_ ?_ _) | (with_reducible refine Below.setCell ?_ ?_ _) | (with_reducible refine belowStep (by assumption) ?_ ?_) | (with_reducible exact Below.size (by assumption)) | go_size))⟩
  | true =>
    obtain ⟨n1, n2, d1, d2, hnd, hg, hgc, hi⟩ := proB_bounds h
    obtain ⟨f1, f2⟩ := lfR_yes (show 1 ≤ d by omega)
    by_cases h0 : leastF d = 0
    · have E := Lib.hid (fdO_zero (n := n) h0)
      have F : Hid (lfR d = 0 ∧ lfB d = false) := Lib.hid ⟨by rw [f1, h0], by rw [f2, h0]; rfl⟩
      go_enter Tryz.func138, Tryz.ntmps138
      go_wp2_with fail
      refine (isProper_any _ _ _ rn rd).mono ?_; rintro e w1 ⟨rfl, hb1⟩; obtain ⟨hc1, hf1⟩ := bcellB hb1; have hz1 := hb1.size; (try simp only [World.size_alloc] at hc1 hf1 hz1); (try have hy1_r_0 : wr.heap.size < w1.heap.size := by omega); (try have hn1_r_0 : wr.heap.size ≠ w1.heap.size := by omega); (try have hm1_r_0 : w1.heap.size ≠ wr.heap.size := by omega); (try have hy1_r_1 : wr.heap.size + 1 < w1.heap.size := by omega); (try have hn1_r_1 : wr.heap.size + 1 ≠ w1.heap.size := by omega); (try have hm1_r_1 : w1.heap.size ≠ wr.heap.size + 1 := by omega); (try have hy1_r_2 : wr.heap.size + 1 + 1 < w1.heap.size := by omega); (try have hp1_r_1 : wr.heap.size < w1.heap.size + 1 := by omega); (try have hp1_r_2 : wr.heap.size < w1.heap.size + 1 + 1 := by omega); (try have hy1_0_0 : w.heap.size < w1.heap.size := by omega); (try have hn1_0_0 : w.heap.size ≠ w1.heap.size := by omega); (try have hm1_0_0 : w1.heap.size ≠ w.heap.size := by omega); (try have hy1_0_1 : w.heap.size + 1 < w1.heap.size := by omega); (try have hn1_0_1 : w.heap.size + 1 ≠ w1.heap.size := by omega); (try have hm1_0_1 : w1.heap.size ≠ w.heap.size + 1 := by omega); (try have hy1_0_2 : w.heap.size + 1 + 1 < w1.heap.size := by omega); (try have hp1_0_1 : w.heap.size < w1.heap.size + 1 := by omega); (try have hp1_0_2 : w.heap.size < w1.heap.size + 1 + 1 := by omega); (try have hg1_g1 : g1 < w1.heap.size := by omega); (try have hi1_g1 : g1 ≠ w1.heap.size := by omega); (try have hj1_g1 : w1.heap.size ≠ g1 := by omega); (try have hk1_g1 : g1 < w1.heap.size + 1 := by omega); (try have hg1_g2 : g2 < w1.heap.size := by omega); (try have hi1_g2 : g2 ≠ w1.heap.size := by omega); (try have hj1_g2 : w1.heap.size ≠ g2 := by omega); (try have hk1_g2 : g2 < w1.heap.size + 1 := by omega)
      rw [h]
      go_wp2_with fail
      refine (leastFactorial_any d _ rd).mono ?_; rintro e w2 ⟨rfl, k2, rfl⟩
      rw [F.out.1, F.out.2]
      go_wp2
      go_ret2
      rw [E.out]
      exact ⟨_, rfl, OwnI.empty _ _, by (repeat' (first | (with_reducible exact Below.refl _ _) | (with_reducible assumption) | (with_reducible refine Below.drew ?_) | (with_reducible refine belowDrewN ?_ _) | (with_reducible refine Below.alloc ?_ ?_ _) | (with_reducible refine Below.setCell ?_ ?_ _) | (with_reducible refine belowStep (by assumption) ?_ ?_) | (with_reducible exact Below.size (by assumption)) | go_size))⟩
    · have E := Lib.hid (fdO_yes h h0)
      obtain ⟨m, m2, m12, hm, q1, q2, l0, l1, hL, hdq⟩ := fd_start h h0
      have F : Hid (lfR d = m ∧ lfB d = true) := Lib.hid ⟨by rw [f1, hm], by rw [f2, decide_eq_true h0]⟩
      have hf := fac_in m12
      have HF := Lib.hid fun (w : World) => factorialOf_any m w m12
      have HLL := Lib.hid hL
      have hne : d ≠ 0 := by omega
      have E3 : Hid (IntKind.i64.wrap (n * IntKind.i64.wrap (fac m / d)) = n * (fac m / d)) := Lib.hid (by rw [IntWalk.i64_in (fac m / d) (by omega)]; exact IntWalk.i64_in _ (by omega))
      have hmk : ∀ w : World, (Instr.makeSlice 24 (.int .i64 (IntKind.i64.wrap ((m : Int) - 1))) (.int .i64 (IntKind.i64.wrap ((m : Int) - 1)))).run Tryz.prog w = .ok (.slice (some ⟨w.heap.size, 0, none⟩) (m - 1) (m - 1)) (w.alloc (.cells (madeCells #[.int .i64 0] (m - 1)) 3)) := fun w => by
        rw [IntWalk.i64_in ((m : Int) - 1) (by omega), show (m : Int) - 1 = ((m - 1 : Nat) : Int) from by omega]
        exact run_make_row' 24 3 (.int .i64 0) 8 Tryz.underlying24 intInfo rfl .i64 .i64 (m - 1) (by omega) (by omega) w
      have htd : (fac m).tdiv d = fac m / d := Int.tdiv_eq_ediv_of_nonneg (by omega)
      have T0 := Lib.hid (TwoAt.new w n d 27)
      clear hg hgc hi h0 hm hL hdq f1 f2
      go_enter Tryz.func138, Tryz.ntmps138
      go_wp2_with fail
      refine (isProper_any _ _ _ rn rd).mono ?_; rintro e w1 ⟨rfl, hb1⟩; obtain ⟨hc1, hf1⟩ := bcellB hb1; have hz1 := hb1.size; (try simp only [World.size_alloc] at hc1 hf1 hz1); (try have hy1_r_0 : wr.heap.size < w1.heap.size := by omega); (try have hn1_r_0 : wr.heap.size ≠ w1.heap.size := by omega); (try have hm1_r_0 : w1.heap.size ≠ wr.heap.size := by omega); (try have hy1_r_1 : wr.heap.size + 1 < w1.heap.size := by omega); (try have hn1_r_1 : wr.heap.size + 1 ≠ w1.heap.size := by omega); (try have hm1_r_1 : w1.heap.size ≠ wr.heap.size + 1 := by omega); (try have hy1_r_2 : wr.heap.size + 1 + 1 < w1.heap.size := by omega); (try have hp1_r_1 : wr.heap.size < w1.heap.size + 1 := by omega); (try have hp1_r_2 : wr.heap.size < w1.heap.size + 1 + 1 := by omega); (try have hy1_0_0 : w.heap.size < w1.heap.size := by omega); (try have hn1_0_0 : w.heap.size ≠ w1.heap.size := by omega); (try have hm1_0_0 : w1.heap.size ≠ w.heap.size := by omega); (try have hy1_0_1 : w.heap.size + 1 < w1.heap.size := by omega); (try have hn1_0_1 : w.heap.size + 1 ≠ w1.heap.size := by omega); (try have hm1_0_1 : w1.heap.size ≠ w.heap.size + 1 := by omega); (try have hy1_0_2 : w.heap.size + 1 + 1 < w1.heap.size := by omega); (try have hp1_0_1 : w.heap.size < w1.heap.size + 1 := by omega); (try have hp1_0_2 : w.heap.size < w1.heap.size + 1 + 1 := by omega); (try have hg1_g1 : g1 < w1.heap.size := by omega); (try have hi1_g1 : g1 ≠ w1.heap.size := by omega); (try have hj1_g1 : w1.heap.size ≠ g1 := by omega); (try have hk1_g1 : g1 < w1.heap.size + 1 := by omega); (try have hg1_g2 : g2 < w1.heap.size := by omega); (try have hi1_g2 : g2 ≠ w1.heap.size := by omega); (try have hj1_g2 : w1.heap.size ≠ g2 := by omega); (try have hk1_g2 : g2 < w1.heap.size + 1 := by omega)
      rw [h]
      go_wp2_with fail
      refine (leastFactorial_any d _ rd).mono ?_; rintro e w2 ⟨rfl, k2, rfl⟩
      rw [F.out.1, F.out.2]
      obtain ⟨t1, t2, t3, t4, t5⟩ := T0.out.below hb1
      go_upto_region 6 with fail
      go_cut [6, 7] (fun s6 s7 wx => ∃ g : Nat, s6 = .slice (some ⟨g, 0, none⟩) (m - 1) (m - 1) ∧ s7 = .int .i64 (n * (fac m / d)) ∧ OwnI wx w.heap.size s6 (List.replicate (m - 1) 0) ∧ Below w.heap.size w wx)
      case first =>
        go_region_held3 (fun w' => w'.cell? ⟨w.heap.size, 0, none⟩ = some (.int .i64 n) ∧ w'.cell? ⟨w.heap.size, 1, none⟩ = some (.int .i64 d)) (first | exact ⟨t1, t2⟩ | go_keep) (first | (go_at_call 139; refine (HF.out _).mono ?_; rintro e w2 ⟨rfl, k2, rfl⟩))
        all_goals go_wp2_with fail
        all_goals go_meet
        all_goals refine ⟨_, rfl, by first | rfl | (rw [E3.out]; done) | (simp [*]; exact E3.out), ?_, by (repeat' (first | (with_reducible exact Below.refl _ _) | (with_reducible assumption) | (with_reducible refine Below.drew ?_) | (with_reducible refine belowDrewN ?_ _) | (with_reducible refine Below.alloc ?_ ?_ _) | (with_reducible refine Below.setCell ?_ ?_ _) | (with_reducible refine belowStep (by assumption) ?_ ?_) | (with_reducible exact Below.size (by assumption)) | go_size))⟩
        all_goals exact OwnI.atBlock (by (first | (go_size; done) | ((try simp only [World.size_alloc, World.size_setCell, World.size_drew, World.heap_drewN]); omega))) (by omega) (heap_alloc_new w1 _)
      case rest =>
        obtain ⟨w3, rfl⟩ : ∃ w3 : World, w3 = wc := ⟨_, rfl⟩
        obtain ⟨g, rfl, rfl, ho3, hb3⟩ := hcut
        have Ho3 := Lib.hid ho3
        have hz3 := hb3.size
        clear ho3 hmk
        go_wp2
        go_loopw [7, 8] (fun v7 v8 wr => ∃ (i : Nat) (left : Int) (ys : List Int), 1 ≤ i ∧ i ≤ m ∧ v7 = .int .i64 left ∧ v8 = .int .i64 (i : Int) ∧ 0 ≤ left ∧ left ≤ 479001600 ∧ digL m (n * (fac m / d)) = digL i left ++ ys ∧ OwnI wr w.heap.size (.slice (some ⟨g, 0, none⟩) (m - 1) (m - 1)) (List.replicate (i - 1) 0 ++ ys) ∧ Below w.heap.size w wr) (fun _ v8 _ => (intOf v8).toNat)
        case atStart => exact ⟨m, _, [], by omega, Nat.le_refl _, rfl, rfl, by omega, by omega, by simp, by simpa using Ho3.out, by (repeat' (first | (with_reducible exact Below.refl _ _) | (with_reducible assumption) | (with_reducible refine Below.drew ?_) | (with_reducible refine belowDrewN ?_ _) | (with_reducible refine Below.alloc ?_ ?_ _) | (with_reducible refine Below.setCell ?_ ?_ _) | (with_reducible refine belowStep (by assumption) ?_ ?_) | (with_reducible exact Below.size (by assumption)) | go_size))⟩
        case round =>
          obtain ⟨i, left, ys, i1, i2, rfl, rfl, k0, k1, hd, ho, hbr⟩ := hrel
          have hzr := hbr.size
          have hl2 := digL_len m (n * (fac m / d))
          rw [hd, List.length_append, digL_len] at hl2
          have Hd := Lib.hid hd
          clear hd
          by_cases h2 : 2 ≤ i
          · obtain ⟨k, rfl⟩ : ∃ k, i = k + 2 := ⟨i - 2, by omega⟩
            obtain ⟨e1, e2, e3, e4, e5, e6⟩ := dig_in h2 k0 k1
            have hs := digL_step h2 left
            have Hs : Hid (digL m (n * (fac m / d)) = digL (k + 1) (left / ((k + 2 : Nat) : Int)) ++ (left % ((k + 2 : Nat) : Int) :: ys)) := Lib.hid (by rw [Hd.out, hs, List.append_assoc]; rfl)
            have hlen : m - 1 = (List.replicate (k + 1) (0 : Int) ++ ys).length := by rw [List.length_append, List.length_replicate]; omega
            obtain ⟨hC, hF⟩ := ho.cell_ hlen (zeros_at k ys)
            have hgl := (ho.block g rfl).2
            have hgb := (ho.block g rfl).1
            have O2 := ho.set_ hlen k (left % ((k + 2 : Nat) : Int))
            have hz0 := zeros_set k ys (left % ((k + 2 : Nat) : Int))
            rw [show k + 2 - 1 = k + 1 from by omega] at O2
            rw [hz0] at O2
            have HO := Lib.hid O2
            have hne2 : ((k + 2 : Nat) : Int) ≠ 0 := by omega
            have hki : ((k + 2 : Nat) : Int) - 2 = (k : Int) := by omega
            have hkm : (k : Int) < ((m - 1 : Nat) : Int) := by omega
            clear hs hz0 O2 ho hlen
            go_wp2
            go_roundw
            case rel => exact ⟨k + 1, _, _, by omega, by omega, rfl, by go_num, e5, e6, Hs.out, HO.out, by (repeat' (first | (with_reducible exact Below.refl _ _) | (with_reducible assumption) | (with_reducible refine Below.drew ?_) | (with_reducible refine belowDrewN ?_ _) | (with_reducible refine Below.alloc ?_ ?_ _) | (with_reducible refine Below.setCell ?_ ?_ _) | (with_reducible refine belowStep (by assumption) ?_ ?_) | (with_reducible exact Below.size (by assumption)) | go_size))⟩
            case measure => simp [intOf]; omega
          · obtain rfl : i = 1 := by omega
            have E4 : Hid (fdL n d = ys) := Lib.hid (by rw [HLL.out, Hd.out]; rfl)
            have hyl : ys.length = m - 1 := by omega
            have Ho : Hid (OwnI wr w.heap.size (.slice (some ⟨g, 0, none⟩) (m - 1) (m - 1)) ys) := Lib.hid (by simpa using ho)
            clear ho
            go_wp2
            go_ret2
            rw [E.out, Option.getD_some, E4.out]
            exact ⟨_, rfl, Ho.out, by (repeat' (first | (with_reducible exact Below.refl _ _) | (with_reducible assumption) | (with_reducible refine Below.drew ?_) | (with_reducible refine belowDrewN ?_ _) | (with_reducible refine Below.alloc ?_ ?_ _) | (with_reducible refine Below.setCell ?_ ?_ _) | (with_reducible refine belowStep (by assumption) ?_ ?_) | (with_reducible exact Below.size (by assumption)) | go_size))⟩
end Go.Proofs.YtbjblkfibinenadGreatDoor


/-
  Plain facts on the terms that digits by factorials stand for.
-/
namespace Go.Proofs.YtbjblkfibinenadGreatDoor
open Go.RowKit
/-- the terms of digits, from the place of k + 2 on -/
def facT : Nat → List Int → List Int
  | _, [] => []
  | k, d :: ds => if 0 < d then (fac (k + 2) / d) :: facT (k + 1) ds else facT (k + 1) ds
theorem facT_snoc : ∀ (k : Nat) (ds : List Int) (x : Int), facT k (ds ++ [x]) = facT k ds ++ (if 0 < x then [fac (k + ds.length + 2) / x] else [])
  | k, [], x => by
    show (if 0 < x then _ else _) = _
    split <;> simp [facT]
  | k, d :: ds, x => by
    rw [List.cons_append, facT, facT, facT_snoc (k + 1) ds x, show k + 1 + ds.length + 2 = k + (d :: ds).length + 2 from by simp; omega]
    split <;> simp
theorem facT_len : ∀ (k : Nat) (ds : List Int), (facT k ds).length ≤ ds.length
  | _, [] => by simp [facT]
  | k, d :: ds => by
    have := facT_len (k + 1) ds
    rw [facT]
    split <;> simp <;> omega
theorem facT_next {ds : List Int} {k : Nat} {x : Int} (hk : k < ds.length) (hx : ds[k]? = some x) : facT 0 (ds.take (k + 1)) = facT 0 (ds.take k) ++ (if 0 < x then [fac (k + 2) / x] else []) := by
  have hl : (ds.take k).length = k := by rw [List.length_take]; omega
  have e : ds.take (k + 1) = ds.take k ++ [x] := by rw [List.take_add_one, hx]; rfl
  rw [e, facT_snoc, hl, Nat.zero_add]
/-- one term: between two factorials -/
theorem term_in {k : Nat} {x : Int} (h0 : 0 < x) (h1 : x ≤ (k : Int) + 1) : fac (k + 1) < fac (k + 2) / x ∧ fac (k + 2) / x ≤ fac (k + 2) := by
  have hf := fac_pos k
  have e1 : fac (k + 1) = fac k * ((k : Int) + 1) := rfl
  have e2 : fac (k + 2) = fac k * ((k : Int) + 1) * ((k : Int) + 2) := by
    show fac (k + 1) * ((k + 1 + 1 : Nat) : Int) = _
    rw [e1]
    congr 1
  have p0 : 0 ≤ fac k * ((k : Int) + 2) := Int.mul_nonneg (by omega) (by omega)
  have p1 : fac k * ((k : Int) + 2) * x ≤ fac k * ((k : Int) + 2) * ((k : Int) + 1) := Int.mul_le_mul_of_nonneg_left h1 p0
  have p2 : fac k * ((k : Int) + 2) * x ≤ fac (k + 2) := by
    rw [e2]
    have : fac k * ((k : Int) + 2) * ((k : Int) + 1) = fac k * ((k : Int) + 1) * ((k : Int) + 2) := by grind
    omega
  have p3 := Int.le_ediv_of_mul_le h0 p2
  have p4 : fac k * ((k : Int) + 2) = fac k * ((k : Int) + 1) + fac k := by grind
  refine ⟨by omega, Int.ediv_le_self _ (by have := fac_pos (k + 2); omega)⟩
theorem facT_rise {ds : List Int} (h : ∀ (i : Nat) (x : Int), ds[i]? = some x → 0 ≤ x ∧ x ≤ (i : Int) + 1) : ∀ k, k ≤ ds.length → Rising (facT 0 (ds.take k)) ∧ ∀ t ∈ facT 0 (ds.take k), 1 ≤ t ∧ t ≤ fac (k + 1)
  | 0, _ => by simp [facT, Rising]
  | k + 1, hk => by
    obtain ⟨i1, i2⟩ := facT_rise h k (by omega)
    obtain ⟨x, hx⟩ : ∃ x, ds[k]? = some x := ⟨_, List.getElem?_eq_getElem (by omega)⟩
    obtain ⟨x0, x1⟩ := h k x hx
    have hu := fac_up (k + 1)
    rw [facT_next (by omega) hx]
    by_cases hp : 0 < x
    · obtain ⟨t1, t2⟩ := term_in hp x1
      rw [if_pos hp]
      refine ⟨List.pairwise_append.2 ⟨i1, by simp, fun a ha b hb => ?_⟩, fun t ht => ?_⟩
      · have := i2 a ha
        simp at hb
        subst hb
        omega
      · have hf := fac_pos (k + 1)
        rcases List.mem_append.1 ht with h1 | h1
        · have := i2 t h1; omega
        · simp at h1
          subst h1
          exact ⟨by omega, t2⟩
    · rw [if_neg hp, List.append_nil]
      exact ⟨i1, fun t ht => by have := i2 t ht; omega⟩
/-- digits lie in their ranges -/
theorem digL_in : ∀ (i : Nat) (L : Int) (j : Nat) (x : Int), (digL i L)[j]? = some x → 0 ≤ x ∧ x ≤ (j : Int) + 1
  | 0, L, j, x, h => by simp [digL] at h
  | 1, L, j, x, h => by simp [digL] at h
  | i + 2, L, j, x, h => by
    rw [digL] at h
    have hl : (digL (i + 1) (L / ((i + 2 : Nat) : Int))).length = i := by rw [digL_len]; rfl
    rcases Nat.lt_or_ge j i with hj | hj
    · rw [List.getElem?_append_left (by omega)] at h
      exact digL_in (i + 1) _ j x h
    · rw [List.getElem?_append_right (by omega), hl] at h
      rcases Nat.eq_zero_or_pos (j - i) with h0 | h0
      · rw [h0] at h
        simp only [List.getElem?_cons_zero, Option.some.injEq] at h
        subst h
        have a := Int.emod_nonneg L (show ((i + 2 : Nat) : Int) ≠ 0 by omega)
        have b := Int.emod_lt_of_pos L (show 0 < ((i + 2 : Nat) : Int) by omega)
        omega
      · obtain ⟨q, hq⟩ : ∃ q, j - i = q + 1 := ⟨j - i - 1, by omega⟩
        rw [hq] at h
        simp at h
/-- only 0 has no terms -/
theorem digL_zero : ∀ (i : Nat) (L : Int), 0 ≤ L → L < fac i → facT 0 (digL i L) = [] → L = 0
  | 0, L, h0, h1, _ => by simp [fac] at h1; omega
  | 1, L, h0, h1, _ => by simp [fac] at h1; omega
  | i + 2, L, h0, h1, h => by
    rw [digL, facT_snoc, List.append_eq_nil_iff] at h
    have hf : fac (i + 2) = fac (i + 1) * ((i + 2 : Nat) : Int) := rfl
    have a := Int.emod_nonneg L (show ((i + 2 : Nat) : Int) ≠ 0 by omega)
    have e := Int.mul_ediv_add_emod L ((i + 2 : Nat) : Int)
    have hd : L / ((i + 2 : Nat) : Int) < fac (i + 1) := Int.ediv_lt_of_lt_mul (by omega) (by rw [← hf]; exact h1)
    have ih := digL_zero (i + 1) _ (Int.ediv_nonneg h0 (by omega)) hd h.1
    rw [ih] at e
    have hm : ¬ 0 < L % ((i + 2 : Nat) : Int) := fun hp => by
      have := h.2
      rw [if_pos hp] at this
      cases this
    omega
/-- the terms of a fraction -/
def faO (n d : Int) : Option (List Int) := (fdO n d).map (facT 0)
theorem faO_facts {n d : Int} {xs : List Int} (h : faO n d = some xs) : xs ≠ [] ∧ xs.length ≤ 1000 ∧ Rising xs ∧ (∀ t ∈ xs, 1 ≤ t ∧ t ≤ 479001600) := by
  unfold faO fdO at h
  split at h
  · rename_i hb
    unfold fdB at hb
    simp only [Bool.and_eq_true, decide_eq_true_eq] at hb
    obtain ⟨m, m2, m12, hm, q1, q2, l0, l1, hL, hdq⟩ := fd_start hb.1 hb.2
    injection h with h
    rw [hL] at h
    have hin := digL_in m (n * (fac m / d))
    have hl := digL_len m (n * (fac m / d))
    have hr := facT_rise hin (digL m (n * (fac m / d))).length (Nat.le_refl _)
    rw [List.take_length] at hr
    have hfl := facT_len 0 (digL m (n * (fac m / d)))
    have n1 := ((proB_iff n d).1 hb.1).2.1
    have hpos := mul_pos1 n1 q1
    subst h
    refine ⟨fun e => ?_, by omega, hr.1, fun t ht => ?_⟩
    · have := digL_zero m _ l0 l1 e
      omega
    · have := hr.2 t ht
      have := fac_le (n := (digL m (n * (fac m / d))).length + 1) (by omega)
      omega
  · cases h
end Go.Proofs.YtbjblkfibinenadGreatDoor
