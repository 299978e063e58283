
/-
  Contracts of the model's Engel and Pierce lists.
-/
import Derived.Test.YtbjblkfibinenabStepE
namespace Go.Proofs.Ytbjblkfibinenab
open Go.RowKit
set_option maxRecDepth 100000 in
set_option maxHeartbeats 8000000 in
theorem spec_engelOf_any (n0 d0 : Int) (w : World) : Calls Try.prog 10 #[.agg #[.int .i64 n0, .int .i64 d0]] w (RetRB ((engO n0 d0).getD []) (engO n0 d0).isSome w) := by
  cases h : belowB n0 d0 with
  | false =>
    have E : Hid (engO n0 d0 = none) := Lib.hid (by unfold engO; rw [h]; rfl)
    cases hg : goodB n0 d0 with
    | false =>
      go_enter Try.func10, Try.ntmps10
      go_wp2_with (go_at_call 33; refine (unGood_any _ _ _).mono ?_; rintro e w1 ⟨rfl, hb1⟩; obtain ⟨hc1, hf1⟩ := bcellB hb1; have hz1 := hb1.size; (try simp only [World.size_alloc] at hc1 hf1 hz1); (try have hy1_r_0 : wr.heap.size < w1.heap.size := by omega); (try have hn1_r_0 : wr.heap.size ≠ w1.heap.size := by omega); (try have hm1_r_0 : w1.heap.size ≠ wr.heap.size := by omega); (try have hy1_r_1 : wr.heap.size + 1 < w1.heap.size := by omega); (try have hn1_r_1 : wr.heap.size + 1 ≠ w1.heap.size := by omega); (try have hm1_r_1 : w1.heap.size ≠ wr.heap.size + 1 := by omega); (try have hy1_r_2 : wr.heap.size + 1 + 1 < w1.heap.size := by omega); (try have hp1_r_1 : wr.heap.size < w1.heap.size + 1 := by omega); (try have hp1_r_2 : wr.heap.size < w1.heap.size + 1 + 1 := by omega); (try have hy1_0_0 : w.heap.size < w1.heap.size := by omega); (try have hn1_0_0 : w.heap.size ≠ w1.heap.size := by omega); (try have hm1_0_0 : w1.heap.size ≠ w.heap.size := by omega); (try have hy1_0_1 : w.heap.size + 1 < w1.heap.size := by omega); (try have hn1_0_1 : w.heap.size + 1 ≠ w1.heap.size := by omega); (try have hm1_0_1 : w1.heap.size ≠ w.heap.size + 1 := by omega); (try have hy1_0_2 : w.heap.size + 1 + 1 < w1.heap.size := by omega); (try have hp1_0_1 : w.heap.size < w1.heap.size + 1 := by omega); (try have hp1_0_2 : w.heap.size < w1.heap.size + 1 + 1 := by omega); (try have hg1_g1 : g1 < w1.heap.size := by omega); (try have hi1_g1 : g1 ≠ w1.heap.size := by omega); (try have hj1_g1 : w1.heap.size ≠ g1 := by omega); (try have hk1_g1 : g1 < w1.heap.size + 1 := by omega); (try have hg1_g2 : g2 < w1.heap.size := by omega); (try have hi1_g2 : g2 ≠ w1.heap.size := by omega); (try have hj1_g2 : w1.heap.size ≠ g2 := by omega); (try have hk1_g2 : g2 < w1.heap.size + 1 := by omega))
      go_ret2
      rw [E.out]
      exact ret_rnil' (by (repeat' (first | (with_reducible exact Below.refl _ _) | (with_reducible assumption) | (with_reducible refine Below.drew ?_) | (with_reducible refine belowDrewN ?_ _) | (with_reducible refine Below.alloc ?_ ?_ _) | (with_reducible refine Below.setCell ?_ ?_ _) | (with_reducible refine belowStep (by assumption) ?_ ?_) | (with_reducible exact Below.size (by assumption)) | go_size)))
    | true =>
      have hle : d0 ≤ n0 := by
        simp only [belowB, hg, Bool.true_and, decide_eq_false_iff_not] at h
        omega
      clear h
      go_enter Try.func10, Try.ntmps10
      go_wp2_with (go_at_call 33; refine (unGood_any _ _ _).mono ?_; rintro e w1 ⟨rfl, hb1⟩; obtain ⟨hc1, hf1⟩ := bcellB hb1; have hz1 := hb1.size; (try simp only [World.size_alloc] at hc1 hf1 hz1); (try have hy1_r_0 : wr.heap.size < w1.heap.size := by omega); (try have hn1_r_0 : wr.heap.size ≠ w1.heap.size := by omega); (try have hm1_r_0 : w1.heap.size ≠ wr.heap.size := by omega); (try have hy1_r_1 : wr.heap.size + 1 < w1.heap.size := by omega); (try have hn1_r_1 : wr.heap.size + 1 ≠ w1.heap.size := by omega); (try have hm1_r_1 : w1.heap.size ≠ wr.heap.size + 1 := by omega); (try have hy1_r_2 : wr.heap.size + 1 + 1 < w1.heap.size := by omega); (try have hp1_r_1 : wr.heap.size < w1.heap.size + 1 := by omega); (try have hp1_r_2 : wr.heap.size < w1.heap.size + 1 + 1 := by omega); (try have hy1_0_0 : w.heap.size < w1.heap.size := by omega); (try have hn1_0_0 : w.heap.size ≠ w1.heap.size := by omega); (try have hm1_0_0 : w1.heap.size ≠ w.heap.size := by omega); (try have hy1_0_1 : w.heap.size + 1 < w1.heap.size := by omega); (try have hn1_0_1 : w.heap.size + 1 ≠ w1.heap.size := by omega); (try have hm1_0_1 : w1.heap.size ≠ w.heap.size + 1 := by omega); (try have hy1_0_2 : w.heap.size + 1 + 1 < w1.heap.size := by omega); (try have hp1_0_1 : w.heap.size < w1.heap.size + 1 := by omega); (try have hp1_0_2 : w.heap.size < w1.heap.size + 1 + 1 := by omega); (try have hg1_g1 : g1 < w1.heap.size := by omega); (try have hi1_g1 : g1 ≠ w1.heap.size := by omega); (try have hj1_g1 : w1.heap.size ≠ g1 := by omega); (try have hk1_g1 : g1 < w1.heap.size + 1 := by omega); (try have hg1_g2 : g2 < w1.heap.size := by omega); (try have hi1_g2 : g2 ≠ w1.heap.size := by omega); (try have hj1_g2 : w1.heap.size ≠ g2 := by omega); (try have hk1_g2 : g2 < w1.heap.size + 1 := by omega))
      go_ret2
      rw [E.out]
      exact ret_rnil' (by (repeat' (first | (with_reducible exact Below.refl _ _) | (with_reducible assumption) | (with_reducible refine Below.drew ?_) | (with_reducible refine belowDrewN ?_ _) | (with_reducible refine Below.alloc ?_ ?_ _) | (with_reducible refine Below.setCell ?_ ?_ _) | (with_reducible refine belowStep (by assumption) ?_ ?_) | (with_reducible exact Below.size (by assumption)) | go_size)))
  | true =>
    obtain ⟨hg, hlt⟩ := belowB_yes h
    have E0 : Hid (engO n0 d0 = lstO stE engB 24 0 n0 d0) := Lib.hid (by unfold engO; rw [if_pos h])
    have HG := Lib.hid hg
    clear h
    go_enter Try.func10, Try.ntmps10
    go_wp2_with fail
    refine (unGood_any _ _ _).mono ?_; rintro e w1 ⟨rfl, hb1⟩; obtain ⟨hc1, hf1⟩ := bcellB hb1; have hz1 := hb1.size; (try simp only [World.size_alloc] at hc1 hf1 hz1); (try have hy1_r_0 : wr.heap.size < w1.heap.size := by omega); (try have hn1_r_0 : wr.heap.size ≠ w1.heap.size := by omega); (try have hm1_r_0 : w1.heap.size ≠ wr.heap.size := by omega); (try have hy1_r_1 : wr.heap.size + 1 < w1.heap.size := by omega); (try have hn1_r_1 : wr.heap.size + 1 ≠ w1.heap.size := by omega); (try have hm1_r_1 : w1.heap.size ≠ wr.heap.size + 1 := by omega); (try have hy1_r_2 : wr.heap.size + 1 + 1 < w1.heap.size := by omega); (try have hp1_r_1 : wr.heap.size < w1.heap.size + 1 := by omega); (try have hp1_r_2 : wr.heap.size < w1.heap.size + 1 + 1 := by omega); (try have hy1_0_0 : w.heap.size < w1.heap.size := by omega); (try have hn1_0_0 : w.heap.size ≠ w1.heap.size := by omega); (try have hm1_0_0 : w1.heap.size ≠ w.heap.size := by omega); (try have hy1_0_1 : w.heap.size + 1 < w1.heap.size := by omega); (try have hn1_0_1 : w.heap.size + 1 ≠ w1.heap.size := by omega); (try have hm1_0_1 : w1.heap.size ≠ w.heap.size + 1 := by omega); (try have hy1_0_2 : w.heap.size + 1 + 1 < w1.heap.size := by omega); (try have hp1_0_1 : w.heap.size < w1.heap.size + 1 := by omega); (try have hp1_0_2 : w.heap.size < w1.heap.size + 1 + 1 := by omega); (try have hg1_g1 : g1 < w1.heap.size := by omega); (try have hi1_g1 : g1 ≠ w1.heap.size := by omega); (try have hj1_g1 : w1.heap.size ≠ g1 := by omega); (try have hk1_g1 : g1 < w1.heap.size + 1 := by omega); (try have hg1_g2 : g2 < w1.heap.size := by omega); (try have hi1_g2 : g2 ≠ w1.heap.size := by omega); (try have hj1_g2 : w1.heap.size ≠ g2 := by omega); (try have hk1_g2 : g2 < w1.heap.size + 1 := by omega)
    rw [hg]
    clear hg
    have T2 := Lib.hid (TwoAt.new w1 n0 d0 27)
    have hw1 : w.heap.size + 1 ≤ w1.heap.size := hz1
    go_wp2
    go_loopw [4] (fun v4 wr => ∃ (es : List (Int × Int × Int)) (xs : List Int) (l n d : Int), takenOf es = xs ∧ Walked stE 25 0 n0 d0 es l n d ∧ goodB n d = true ∧ (∃ A c, v4 = .slice A xs.length c) ∧ OwnI wr (w1.heap.size + 1) v4 xs ∧ TwoAt wr w1.heap.size n d ∧ Below w1.heap.size w1 wr) (fun v4 _ => 25 - slen v4)
    case atStart => exact ⟨[], [], 0, n0, d0, rfl, Walked.start _ _ _ _ _, HG.out, ⟨_, _, rfl⟩, OwnI.empty _ _, T2.out, by (repeat' (first | (with_reducible exact Below.refl _ _) | (with_reducible assumption) | (with_reducible refine Below.drew ?_) | (with_reducible refine belowDrewN ?_ _) | (with_reducible refine Below.alloc ?_ ?_ _) | (with_reducible refine Below.setCell ?_ ?_ _) | (with_reducible refine belowStep (by assumption) ?_ ?_) | (with_reducible exact Below.size (by assumption)) | go_size))⟩
    case round =>
      obtain ⟨es, xs, l, n, d, hxs, hwk, hgd, ⟨A, c, rfl⟩, ho, ⟨c3, c4, f3, f4, z2⟩, hbr⟩ := hrel
      have Hxs := Lib.hid hxs
      have Hwk := Lib.hid hwk
      have Ho := Lib.hid ho
      have hzr := hbr.size
      obtain ⟨n1, n2, d1, d2⟩ := good_bounds hgd
      have hxl : xs.length ≤ es.length := by rw [← hxs, takenOf_len]; exact Nat.le_refl _
      have hxl2 : es.length ≤ xs.length := by rw [← hxs, takenOf_len]; exact Nat.le_refl _
      have hle : es.length ≤ 25 := hwk.1
      clear hxs hwk ho
      by_cases hgo : 0 < n ∧ xs.length ≤ 24
      · obtain ⟨hn, h24⟩ := hgo
        obtain ⟨⟨u1, u2⟩, ⟨r1, r2⟩, hb, hgd', _⟩ := stE_facts hgd hn
        have h24i : ((xs.length : Nat) : Int) ≤ 24 := by omega
        have Hst := Lib.hid (Hwk.out.step (by omega) hn (rfl : stE l n d = some (ucd n d, redN (n * ucd n d - d) d, redD (n * ucd n d - d) d)))
        have HM := Lib.hid fun (w : World) => unMake_any (n * ucd n d - d) d w r1 d1 (by omega) (by omega)
        rw [show (n * ucd n d - d) / gcdI (n * ucd n d - d) d = redN (n * ucd n d - d) d from by rw [redN, if_pos hb], show d / gcdI (n * ucd n d - d) d = redD (n * ucd n d - d) d from by rw [redD, if_pos hb]] at HM
        have hm := mul_bounds (a := n) (b := ucd n d) (by omega) n2 (by omega) (by omega)
        have Hgd' := Lib.hid hgd'
        obtain ⟨u, hu⟩ : ∃ u, u = ucd n d := ⟨_, rfl⟩
        have HU := Lib.hid hu.symm
        rw [← hu] at u1 u2 r1 r2 Hst HM hm Hgd'
        clear hb hgd hgd' hu
        generalize redN (n * u - d) d = N at *
        generalize redD (n * u - d) d = D at *
        have hlt6 := Nat.lt_succ_self w1.heap.size
        go_wp2_with (first | (go_at_call 34; refine (grStep_any _ _ _ (by omega) (by omega) (by omega) (by omega)).mono ?_; rintro e w3 ⟨rfl, hb3⟩; rw [HU.out]; obtain ⟨hc3, hf3⟩ := bcellB hb3; have hz3 := hb3.size; (try simp only [World.size_alloc, World.size_setCell, World.size_drew, World.heap_drewN] at hc3 hf3 hz3); (try have hy3_r_0 : wr.heap.size < w3.heap.size := by omega); (try have hn3_r_0 : wr.heap.size ≠ w3.heap.size := by omega); (try have hm3_r_0 : w3.heap.size ≠ wr.heap.size := by omega); (try have hy3_r_1 : wr.heap.size + 1 < w3.heap.size := by omega); (try have hn3_r_1 : wr.heap.size + 1 ≠ w3.heap.size := by omega); (try have hm3_r_1 : w3.heap.size ≠ wr.heap.size + 1 := by omega); (try have hy3_r_2 : wr.heap.size + 1 + 1 < w3.heap.size := by omega); (try have hp3_r_1 : wr.heap.size < w3.heap.size + 1 := by omega); (try have hp3_r_2 : wr.heap.size < w3.heap.size + 1 + 1 := by omega); (try have hy3_0_0 : w.heap.size < w3.heap.size := by omega); (try have hn3_0_0 : w.heap.size ≠ w3.heap.size := by omega); (try have hm3_0_0 : w3.heap.size ≠ w.heap.size := by omega); (try have hy3_0_1 : w.heap.size + 1 < w3.heap.size := by omega); (try have hn3_0_1 : w.heap.size + 1 ≠ w3.heap.size := by omega); (try have hm3_0_1 : w3.heap.size ≠ w.heap.size + 1 := by omega); (try have hy3_0_2 : w.heap.size + 1 + 1 < w3.heap.size := by omega); (try have hp3_0_1 : w.heap.size < w3.heap.size + 1 := by omega); (try have hp3_0_2 : w.heap.size < w3.heap.size + 1 + 1 := by omega); (try have hy3_1_0 : w1.heap.size < w3.heap.size := by omega); (try have hn3_1_0 : w1.heap.size ≠ w3.heap.size := by omega); (try have hm3_1_0 : w3.heap.size ≠ w1.heap.size := by omega); (try have hy3_1_1 : w1.heap.size + 1 < w3.heap.size := by omega); (try have hn3_1_1 : w1.heap.size + 1 ≠ w3.heap.size := by omega); (try have hm3_1_1 : w3.heap.size ≠ w1.heap.size + 1 := by omega); (try have hy3_1_2 : w1.heap.size + 1 + 1 < w3.heap.size := by omega); (try have hp3_1_1 : w1.heap.size < w3.heap.size + 1 := by omega); (try have hp3_1_2 : w1.heap.size < w3.heap.size + 1 + 1 := by omega); (try have hy3_2_0 : w2.heap.size < w3.heap.size := by omega); (try have hn3_2_0 : w2.heap.size ≠ w3.heap.size := by omega); (try have hm3_2_0 : w3.heap.size ≠ w2.heap.size := by omega); (try have hy3_2_1 : w2.heap.size + 1 < w3.heap.size := by omega); (try have hn3_2_1 : w2.heap.size + 1 ≠ w3.heap.size := by omega); (try have hm3_2_1 : w3.heap.size ≠ w2.heap.size + 1 := by omega); (try have hy3_2_2 : w2.heap.size + 1 + 1 < w3.heap.size := by omega); (try have hp3_2_1 : w2.heap.size < w3.heap.size + 1 := by omega); (try have hp3_2_2 : w2.heap.size < w3.heap.size + 1 + 1 := by omega); (try have hg3_g1 : g1 < w3.heap.size := by omega); (try have hi3_g1 : g1 ≠ w3.heap.size := by omega); (try have hj3_g1 : w3.heap.size ≠ g1 := by omega); (try have hk3_g1 : g1 < w3.heap.size + 1 := by omega); (try have hg3_g2 : g2 < w3.heap.size := by omega); (try have hi3_g2 : g2 ≠ w3.heap.size := by omega); (try have hj3_g2 : w3.heap.size ≠ g2 := by omega); (try have hk3_g2 : g2 < w3.heap.size + 1 := by omega)) | (go_at_call 35; refine (HM.out _).mono ?_; rintro e w4 ⟨rfl, hb4⟩; obtain ⟨hc4, hf4⟩ := bcellB hb4; have hz4 := hb4.size; (try simp only [World.size_alloc, World.size_setCell, World.size_drew, World.heap_drewN] at hc4 hf4 hz4); (try have hy4_r_0 : wr.heap.size < w4.heap.size := by omega); (try have hn4_r_0 : wr.heap.size ≠ w4.heap.size := by omega); (try have hm4_r_0 : w4.heap.size ≠ wr.heap.size := by omega); (try have hy4_r_1 : wr.heap.size + 1 < w4.heap.size := by omega); (try have hn4_r_1 : wr.heap.size + 1 ≠ w4.heap.size := by omega); (try have hm4_r_1 : w4.heap.size ≠ wr.heap.size + 1 := by omega); (try have hy4_r_2 : wr.heap.size + 1 + 1 < w4.heap.size := by omega); (try have hp4_r_1 : wr.heap.size < w4.heap.size + 1 := by omega); (try have hp4_r_2 : wr.heap.size < w4.heap.size + 1 + 1 := by omega); (try have hy4_0_0 : w.heap.size < w4.heap.size := by omega); (try have hn4_0_0 : w.heap.size ≠ w4.heap.size := by omega); (try have hm4_0_0 : w4.heap.size ≠ w.heap.size := by omega); (try have hy4_0_1 : w.heap.size + 1 < w4.heap.size := by omega); (try have hn4_0_1 : w.heap.size + 1 ≠ w4.heap.size := by omega); (try have hm4_0_1 : w4.heap.size ≠ w.heap.size + 1 := by omega); (try have hy4_0_2 : w.heap.size + 1 + 1 < w4.heap.size := by omega); (try have hp4_0_1 : w.heap.size < w4.heap.size + 1 := by omega); (try have hp4_0_2 : w.heap.size < w4.heap.size + 1 + 1 := by omega); (try have hy4_1_0 : w1.heap.size < w4.heap.size := by omega); (try have hn4_1_0 : w1.heap.size ≠ w4.heap.size := by omega); (try have hm4_1_0 : w4.heap.size ≠ w1.heap.size := by omega); (try have hy4_1_1 : w1.heap.size + 1 < w4.heap.size := by omega); (try have hn4_1_1 : w1.heap.size + 1 ≠ w4.heap.size := by omega); (try have hm4_1_1 : w4.heap.size ≠ w1.heap.size + 1 := by omega); (try have hy4_1_2 : w1.heap.size + 1 + 1 < w4.heap.size := by omega); (try have hp4_1_1 : w1.heap.size < w4.heap.size + 1 := by omega); (try have hp4_1_2 : w1.heap.size < w4.heap.size + 1 + 1 := by omega); (try have hy4_2_0 : w2.heap.size < w4.heap.size := by omega); (try have hn4_2_0 : w2.heap.size ≠ w4.heap.size := by omega); (try have hm4_2_0 : w4.heap.size ≠ w2.heap.size := by omega); (try have hy4_2_1 : w2.heap.size + 1 < w4.heap.size := by omega); (try have hn4_2_1 : w2.heap.size + 1 ≠ w4.heap.size := by omega); (try have hm4_2_1 : w4.heap.size ≠ w2.heap.size + 1 := by omega); (try have hy4_2_2 : w2.heap.size + 1 + 1 < w4.heap.size := by omega); (try have hp4_2_1 : w2.heap.size < w4.heap.size + 1 := by omega); (try have hp4_2_2 : w2.heap.size < w4.heap.size + 1 + 1 := by omega); (try have hy4_3_0 : w3.heap.size < w4.heap.size := by omega); (try have hn4_3_0 : w3.heap.size ≠ w4.heap.size := by omega); (try have hm4_3_0 : w4.heap.size ≠ w3.heap.size := by omega); (try have hy4_3_1 : w3.heap.size + 1 < w4.heap.size := by omega); (try have hn4_3_1 : w3.heap.size + 1 ≠ w4.heap.size := by omega); (try have hm4_3_1 : w4.heap.size ≠ w3.heap.size + 1 := by omega); (try have hy4_3_2 : w3.heap.size + 1 + 1 < w4.heap.size := by omega); (try have hp4_3_1 : w3.heap.size < w4.heap.size + 1 := by omega); (try have hp4_3_2 : w3.heap.size < w4.heap.size + 1 + 1 := by omega); (try have hg4_g1 : g1 < w4.heap.size := by omega); (try have hi4_g1 : g1 ≠ w4.heap.size := by omega); (try have hj4_g1 : w4.heap.size ≠ g1 := by omega); (try have hk4_g1 : g1 < w4.heap.size + 1 := by omega); (try have hg4_g2 : g2 < w4.heap.size := by omega); (try have hi4_g2 : g2 ≠ w4.heap.size := by omega); (try have hj4_g2 : w4.heap.size ≠ g2 := by omega); (try have hk4_g2 : g2 < w4.heap.size + 1 := by omega)) | (at_builtin; refine wpList_app _ (o := ⟨some 31, _, _, _, _, _⟩) (ys := [u]) rfl _ _ rfl rfl (OwnI.grown Ho.out (show World.grownBy wr _ (some w1.heap.size) by (repeat' (first | (with_reducible exact World.grownBy.refl _ _) | (with_reducible refine grownDrewN ?_ _) | (with_reducible refine grownDrew ?_) | (with_reducible refine grownSet ?_ rfl _ _) | (with_reducible refine grownSetNew ?_ ?_ _ _) | (with_reducible refine grownAlloc ?_ ?_ _) | (with_reducible refine grownBelow ?_ ?_ (by assumption)) | go_size))) (Nat.lt_succ_self _)) (1) (1) (by first | (simp; done) | (simp; omega)) rfl (Reads.one _ u) (by (try simp only [List.length_nil, List.length_cons]); omega) (by first | exact Nat.le_refl _ | ((try simp only [World.size_alloc]); omega)) ?_; intro v6 w6 ho6 hb6 hg6 ht6; clear hg6 ht6; have hz6 := hb6.size; (try simp only [World.size_alloc] at hz6)); obtain ⟨A6, c6, rfl, hr6⟩ := ho6.form; obtain ⟨hc6, hf6⟩ := bcellB hb6; have hy6 : w1.heap.size < w6.heap.size := by omega)
        go_roundw
        case rel => exact ⟨_, xs ++ [u], _, _, _, by rw [takenOf_snoc, Hxs.out], Hst.out, Hgd'.out, ⟨A6, c6, by simp⟩, by simpa using OwnI.grown ho6 (show World.grownBy w6 _ (some w1.heap.size) by (repeat' (first | (with_reducible exact World.grownBy.refl _ _) | (with_reducible refine grownDrewN ?_ _) | (with_reducible refine grownDrew ?_) | (with_reducible refine grownSet ?_ rfl _ _) | (with_reducible refine grownSetNew ?_ ?_ _ _) | (with_reducible refine grownAlloc ?_ ?_ _) | (with_reducible refine grownBelow ?_ ?_ (by assumption)) | go_size))) (Nat.lt_succ_self _), (by (refine ⟨?_, ?_, ?_, ?_, ?_⟩ <;> first | (first | (simp [*]; done) | (simp [go_sem, *]; done)) | (first | (go_size; done) | ((try simp only [World.size_alloc, World.size_setCell, World.size_drew, World.heap_drewN]); omega)))), by (repeat' (first | (with_reducible exact Below.refl _ _) | (with_reducible assumption) | (with_reducible refine Below.drew ?_) | (with_reducible refine belowDrewN ?_ _) | (with_reducible refine Below.alloc ?_ ?_ _) | (with_reducible refine Below.setCell ?_ ?_ _) | (with_reducible refine belowStep (by assumption) ?_ ?_) | (with_reducible exact Below.size (by assumption)) | go_size))⟩
        case measure => simp [slen]; omega
      · by_cases hn : 0 < n
        · have hl25 : xs.length = 25 := by omega
          have h24 : decide (((xs.length : Nat) : Int) ≤ 24) = false := by simp; omega
          have E := Lib.hid (lstO_out25 (ok := engB) (Hwk.out.full hn (by omega)))
          have Eb : Hid (engB xs = false) := Lib.hid (engB_long (by omega))
          obtain ⟨A2, c2, e2, hr2⟩ := Ho.out.form
          injection e2 with e21 e22 e23
          subst e21
          have Hr2 := Lib.hid hr2
          have hxl9 : xs.length ≤ 25 := by omega
          clear hr2 hl25
          go_wp2_with fail
          refine (grEngel_any _ _ _ _ Hr2.out (by omega)).mono ?_; rintro e w7 ⟨rfl, hb7⟩; have hz7 := hb7.size; (try simp only [World.size_alloc, World.size_setCell, World.size_drew, World.heap_drewN] at hz7)
          rw [Eb.out]
          go_wp2
          go_ret2
          rw [E0.out, E.out]
          exact ret_rnil' (by (repeat' (first | (with_reducible exact Below.refl _ _) | (with_reducible assumption) | (with_reducible refine Below.drew ?_) | (with_reducible refine belowDrewN ?_ _) | (with_reducible refine Below.alloc ?_ ?_ _) | (with_reducible refine Below.setCell ?_ ?_ _) | (with_reducible refine belowStep (by assumption) ?_ ?_) | (with_reducible exact Below.size (by assumption)) | go_size)))
        · have hn0 : n = 0 := by omega
          have Hd := Lib.hid (Hwk.out.done (by omega))
          have E := Lib.hid (lstO_of25 (ok := engB) (fun _ h => engB_len h) Hd.out)
          rw [Hxs.out] at E
          obtain ⟨A2, c2, e2, hr2⟩ := Ho.out.form
          injection e2 with e21 e22 e23
          subst e21
          have Hr2 := Lib.hid hr2
          clear hr2 hgo
          cases he : engB xs with
          | true =>
            rw [he] at E
            go_wp2_with fail
            refine (grEngel_any _ _ _ _ Hr2.out (by omega)).mono ?_; rintro e w7 ⟨rfl, hb7⟩; have hz7 := hb7.size; (try simp only [World.size_alloc, World.size_setCell, World.size_drew, World.heap_drewN] at hz7)
            rw [he]
            go_wp2
            go_ret2
            rw [E0.out, E.out]
            exact ⟨_, _, rfl, Hr2.out.below hb7, by (repeat' (first | (with_reducible exact Below.refl _ _) | (with_reducible assumption) | (with_reducible refine Below.drew ?_) | (with_reducible refine belowDrewN ?_ _) | (with_reducible refine Below.alloc ?_ ?_ _) | (with_reducible refine Below.setCell ?_ ?_ _) | (with_reducible refine belowStep (by assumption) ?_ ?_) | (with_reducible exact Below.size (by assumption)) | go_size))⟩
          | false =>
            rw [he] at E
            go_wp2_with fail
            refine (grEngel_any _ _ _ _ Hr2.out (by omega)).mono ?_; rintro e w7 ⟨rfl, hb7⟩; have hz7 := hb7.size; (try simp only [World.size_alloc, World.size_setCell, World.size_drew, World.heap_drewN] at hz7)
            rw [he]
            go_wp2
            go_ret2
            rw [E0.out, E.out]
            exact ret_rnil' (by (repeat' (first | (with_reducible exact Below.refl _ _) | (with_reducible assumption) | (with_reducible refine Below.drew ?_) | (with_reducible refine belowDrewN ?_ _) | (with_reducible refine Below.alloc ?_ ?_ _) | (with_reducible refine Below.setCell ?_ ?_ _) | (with_reducible refine belowStep (by assumption) ?_ ?_) | (with_reducible exact Below.size (by assumption)) | go_size)))
end Go.Proofs.Ytbjblkfibinenab
