import Derived.Test.YtbjblkfibinenadGreatDoorPk25

/-
  Contracts of the model's Engel and Pierce lists.
-/
namespace Go.Proofs.YtbjblkfibinenadGreatDoor
open Go.RowKit
set_option maxRecDepth 100000 in
set_option maxHeartbeats 8000000 in
theorem spec_engelOf_any (n0 d0 : Int) (w : World) : Calls Tryz.prog 68 #[.agg #[.int .i64 n0, .int .i64 d0]] w (RetRB ((engO n0 d0).getD []) (engO n0 d0).isSome w) := by
  cases h : belowB n0 d0 with
  | false =>
    have E : Hid (engO n0 d0 = none) := Lib.hid (by unfold engO; rw [h]; rfl)
    cases hg : goodB n0 d0 with
    | false =>
      go_enter Tryz.func68, Tryz.ntmps68
      go_wp2_with (go_at_call 33; refine (unGood_any _ _ _).mono ?_; rintro e w1 ⟨rfl, hb1⟩; obtain ⟨hc1, hf1⟩ := bcellB hb1; have hz1 := hb1.size; (try simp only [World.size_alloc] at hc1 hf1 hz1); (try have hy1_r_0 : wr.heap.size < w1.heap.size := by omega); (try have hn1_r_0 : wr.heap.size ≠ w1.heap.size := by omega); (try have hm1_r_0 : w1.heap.size ≠ wr.heap.size := by omega); (try have hy1_r_1 : wr.heap.size + 1 < w1.heap.size := by omega); (try have hn1_r_1 : wr.heap.size + 1 ≠ w1.heap.size := by omega); (try have hm1_r_1 : w1.heap.size ≠ wr.heap.size + 1 := by omega); (try have hy1_r_2 : wr.heap.size + 1 + 1 < w1.heap.size := by omega); (try have hp1_r_1 : wr.heap.size < w1.heap.size + 1 := by omega); (try have hp1_r_2 : wr.heap.size < w1.heap.size + 1 + 1 := by omega); (try have hy1_0_0 : w.heap.size < w1.heap.size := by omega); (try have hn1_0_0 : w.heap.size ≠ w1.heap.size := by omega); (try have hm1_0_0 : w1.heap.size ≠ w.heap.size := by omega); (try have hy1_0_1 : w.heap.size + 1 < w1.heap.size := by omega); (try have hn1_0_1 : w.heap.size + 1 ≠ w1.heap.size := by omega); (try have hm1_0_1 : w1.heap.size ≠ w.heap.size + 1 := by omega); (try have hy1_0_2 : w.heap.size + 1 + 1 < w1.heap.size := by omega); (try have hp1_0_1 : w.heap.size < w1.heap.size + 1 := by omega); (try have hp1_0_2 : w.heap.size < w1.heap.size + 1 + 1 := by omega); (try have hg1_g1 : g1 < w1.heap.size := by omega); (try have hi1_g1 : g1 ≠ w1.heap.size := by omega); (try have hj1_g1 : w1.heap.size ≠ g1 := by omega); (try have hk1_g1 : g1 < w1.heap.size + 1 := by omega); (try have hg1_g2 : g2 < w1.heap.size := by omega); (try have hi1_g2 : g2 ≠ w1.heap.size := by omega); (try have hj1_g2 : w1.heap.size ≠ g2 := by omega); (try have hk1_g2 : g2 < w1.heap.size + 1 := by omega))
      go_ret2
      rw [E.out]
      exact ret_rnil' (by (repeat' (first | (with_reducible exact Below.refl _ _) | (with_reducible assumption) | (with_reducible refine Below.drew ?_) | (with_reducible refine belowDrewN ?_ _) | (with_reducible refine Below.alloc ?_ ?_ _) | (with_reducible refine Below.setCell ?_ ?_ _) | (with_reducible refine belowStep (by assumption) ?_ ?_) | (with_reducible exact Below.size (by assumption)) | go_size)))
    | true =>
      have hle : d0 ≤ n0 := by
        simp only [belowB, hg, Bool.true_and, decide_eq_false_iff_not] at h
        omega
      clear h
      go_enter Tryz.func68, Tryz.ntmps68
      go_wp2_with (go_at_call 33; refine (unGood_any _ _ _).mono ?_; rintro e w1 ⟨rfl, hb1⟩; obtain ⟨hc1, hf1⟩ := bcellB hb1; have hz1 := hb1.size; (try simp only [World.size_alloc] at hc1 hf1 hz1); (try have hy1_r_0 : wr.heap.size < w1.heap.size := by omega); (try have hn1_r_0 : wr.heap.size ≠ w1.heap.size := by omega); (try have hm1_r_0 : w1.heap.size ≠ wr.heap.size := by omega); (try have hy1_r_1 : wr.heap.size + 1 < w1.heap.size := by omega); (try have hn1_r_1 : wr.heap.size + 1 ≠ w1.heap.size := by omega); (try have hm1_r_1 : w1.heap.size ≠ wr.heap.size + 1 := by omega); (try have hy1_r_2 : wr.heap.size + 1 + 1 < w1.heap.size := by omega); (try have hp1_r_1 : wr.heap.size < w1.heap.size + 1 := by omega); (try have hp1_r_2 : wr.heap.size < w1.heap.size + 1 + 1 := by omega); (try have hy1_0_0 : w.heap.size < w1.heap.size := by omega); (try have hn1_0_0 : w.heap.size ≠ w1.heap.size := by omega); (try have hm1_0_0 : w1.heap.size ≠ w.heap.size := by omega); (try have hy1_0_1 : w.heap.size + 1 < w1.heap.size := by omega); (try have hn1_0_1 : w.heap.size + 1 ≠ w1.heap.size := by omega); (try have hm1_0_1 : w1.heap.size ≠ w.heap.size + 1 := by omega); (try have hy1_0_2 : w.heap.size + 1 + 1 < w1.heap.size := by omega); (try have hp1_0_1 : w.heap.size < w1.heap.size + 1 := by omega); (try have hp1_0_2 : w.heap.size < w1.heap.size + 1 + 1 := by omega); (try have hg1_g1 : g1 < w1.heap.size := by omega); (try have hi1_g1 : g1 ≠ w1.heap.size := by omega); (try have hj1_g1 : w1.heap.size ≠ g1 := by omega); (try have hk1_g1 : g1 < w1.heap.size + 1 := by omega); (try have hg1_g2 : g2 < w1.heap.size := by omega); (try have hi1_g2 : g2 ≠ w1.heap.size := by omega); (try have hj1_g2 : w1.heap.size ≠ g2 := by omega); (try have hk1_g2 : g2 < w1.heap.size + 1 := by omega))
      go_ret2
      rw [E.out]
      exact ret_rnil' (by (repeat' (first | (with_reducible exact Below.refl _ _) | (with_reducible assumption) | (with_reducible refine Below.drew ?_) | (with_reducible refine belowDrewN ?_ _) | (with_reducible refine Below.alloc ?_ ?_ _) | (with_reducible refine Below.setCell ?_ ?_ _) | (with_reducible refine belowStep (by assumption) ?_ ?_) | (with_reducible exact Below.size (by assumption)) | go_size)))
  | true =>
    obtain ⟨hg, hlt⟩ := belowB_yes h
    have E0 : Hid (engO n0 d0 = lstO stE engB 24 0 n0 d0) := Lib.hid (by unfold engO; rw [if_pos h])
    have HG := Lib.hid hg
    clear h
    go_enter Tryz.func68, Tryz.ntmps68
    go_wp2_with fail
    refine (unGood_any _ _ _).mono ?_; rintro e w1 ⟨rfl, hb1⟩; obtain ⟨hc1, hf1⟩ := bcellB hb1; have hz1 := hb1.size; (try simp only [World.size_alloc] at hc1 hf1 hz1); (try have hy1_r_0 : wr.heap.size < w1.heap.size := by omega); (try have hn1_r_0 : wr.heap.size ≠ w1.heap.size := by omega); (try have hm1_r_0 : w1.heap.size ≠ wr.heap.size := by omega); (try have hy1_r_1 : wr.heap.size + 1 < w1.heap.size := by omega); (try have hn1_r_1 : wr.heap.size + 1 ≠ w1.heap.size := by omega); (try have hm1_r_1 : w1.heap.size ≠ wr.heap.size + 1 := by omega); (try have hy1_r_2 : wr.heap.size + 1 + 1 < w1.heap.size := by omega); (try have hp1_r_1 : wr.heap.size < w1.heap.size + 1 := by omega); (try have hp1_r_2 : wr.heap.size < w1.heap.size + 1 + 1 := by omega); (try have hy1_0_0 : w.heap.size < w1.heap.size := by omega); (try have hn1_0_0 : w.heap.size ≠ w1.heap.size := by omega); (try have hm1_0_0 : w1.heap.size ≠ w.heap.size := by omega); (try have hy1_0_1 : w.heap.size + 1 < w1.heap.size := by omega); (try have hn1_0_1 : w.heap.size + 1 ≠ w1.heap.size := by omega); (try have hm1_0_1 : w1.heap.size ≠ w.heap.size + 1 := by omega); (try have hy1_0_2 : w.heap.size + 1 + 1 < w1.heap.size := by omega); (try have hp1_0_1 : w.heap.size < w1.heap.size + 1 := by omega); (try have hp1_0_2 : w.heap.size < w1.heap.size + 1 + 1 := by omega); (try have hg1_g1 : g1 < w1.heap.size := by omega); (try have hi1_g1 : g1 ≠ w1.heap.size := by omega); (try have hj1_g1 : w1.heap.size ≠ g1 := by omega); (try have hk1_g1 : g1 < w1.heap.size + 1 := by omega); (try have hg1_g2 : g2 < w1.heap.size := by omega); (try have hi1_g2 : g2 ≠ w1.heap.size := by omega); (try have hj1_g2 : w1.heap.size ≠ g2 := by omega); (try have hk1_g2 : g2 < w1.heap.size + 1 := by omega)
    rw [hg]
    clear hg
    have T2 := Lib.hid (TwoAt.new w1 n0 d0 27)
    have hw1 : w.heap.size + 1 ≤ w1.heap.size := hz1
    go_wp2
    go_loopw [4] (fun v4 wr => ∃ (es : List (Int × Int × Int)) (xs : List Int) (l n d : Int), takenOf es = xs ∧ Walked stE 25 0 n0 d0 es l n d ∧ goodB n d = true ∧ (∃ A c, v4 = .slice A xs.length c) ∧ OwnI wr (w1.heap.size + 1) v4 xs ∧ TwoAt wr w1.heap.size n d ∧ Below w1.heap.size w1 wr) (fun v4 _ => 25 - slen v4)
    case atStart => exact ⟨[], [], 0, n0, d0, rfl, Walked.start _ _ _ _ _, HG.out, ⟨_, _, rfl⟩, OwnI.empty _ _, T2.out, by (repeat' (first | (with_reducible exact Below.refl _ _) | (with_reducible assumption) | (with_reducible refine Below.drew ?_) | (with_reducible refine belowDrewN ?_ _) | (with_reducible refine Below.alloc ?_ ?_ _) | (with_reducible refine Below.setCell ?_ ?_ _) | (with_reducible refine belowStep (by assumption) ?_ ?_) | (with_reducible exact Below.size (by assumption)) | go_size))⟩
    case round =>
      obtain ⟨es, xs, l, n, d, hxs, hwk, hgd, ⟨A, c, rfl⟩, ho, ⟨c3, c4, f3, f4, z2⟩, hbr⟩ := hrel
      have Hxs := Lib.hid hxs
      have Hwk := Lib.hid hwk
      have Ho := Lib.hid ho
      have hzr := hbr.size
      obtain ⟨n1, n2, d1, d2⟩ := good_bounds hgd
      have hxl : xs.length ≤ es.length := by rw [← hxs, takenOf_len]; exact Nat.le_refl _
      have hxl2 : es.length ≤ xs.length := by rw [← hxs, takenOf_len]; exact Nat.le_refl _
      have hle : es.length ≤ 25 := hwk.1
      clear hxs hwk ho
      by_cases hgo : 0 < n ∧ xs.length ≤ 24
      · obtain ⟨hn, h24⟩ := hgo
        obtain ⟨⟨u1, u2⟩, ⟨r1, r2⟩, hb, hgd', _⟩ := stE_facts hgd hn
        have h24i : ((xs.length : Nat) : Int) ≤ 24 := by omega
        have Hst := Lib.hid (Hwk.out.step (by omega) hn (rfl : stE l n d = some (ucd n d, redN (n * ucd n d - d) d, redD (n * ucd n d - d) d)))
        have HM := Lib.hid fun (w : World) => unMake_any (n * ucd n d - d) d w r1 d1 (by omega) (by omega)
        rw [show (n * ucd n d - d) / gcdI (n * ucd n d - d) d = redN (n * ucd n d - d) d from by rw [redN, if_pos hb], show d / gcdI (n * ucd n d - d) d = redD (n * ucd n d - d) d from by rw [redD, if_pos hb]] at HM
        have hm := mul_bounds (a := n) (b := ucd n d) (by omega) n2 (by omega) (by omega)
        have Hgd' := Lib.hid hgd'
        obtain ⟨u, hu⟩ : ∃ u, u = ucd n d := ⟨_, rfl⟩
        have HU := Lib.hid hu.symm
        rw [← hu] at u1 u2 r1 r2 Hst HM hm Hgd'
        clear hb hgd hgd' hu
        generalize redN (n * u - d) d = N at *
        generalize redD (n * u - d) d = D at *
        have hlt6 := Nat.lt_succ_self w1.heap.size
        go_wp2_with (first | (go_at_call 78; refine (grStep_any _ _ _ (by omega) (by omega) (by omega) (by omega)).mono ?_; rintro e w3 ⟨rfl, hb3⟩; rw [HU.out]; obtain ⟨hc3, hf3⟩ := bcellB hb3; have hz3 := hb3.size; (try simp only [World.size_alloc, World.size_setCell, World.size_drew, World.heap_drewN] at hc3 hf3 hz3); (try have hy3_r_0 : wr.heap.size < w3.heap.size := by omega); (try have hn3_r_0 : wr.heap.size ≠ w3.heap.size := by omega); (try have hm3_r_0 : w3.heap.size ≠ wr.heap.size := by omega); (try have hy3_r_1 : wr.heap.size + 1 < w3.heap.size := by omega); (try have hn3_r_1 : wr.heap.size + 1 ≠ w3.heap.size := by omega); (try have hm3_r_1 : w3.heap.size ≠ wr.heap.size + 1 := by omega); (try have hy3_r_2 : wr.heap.size + 1 + 1 < w3.heap.size := by omega); (try have hp3_r_1 : wr.heap.size < w3.heap.size + 1 := by omega); (try have hp3_r_2 : wr.heap.size < w3.heap.size + 1 + 1 := by omega); (try have hy3_0_0 : w.heap.size < w3.heap.size := by omega); (try have hn3_0_0 : w.heap.size ≠ w3.heap.size := by omega); (try have hm3_0_0 : w3.heap.size ≠ w.heap.size := by omega); (try have hy3_0_1 : w.heap.size + 1 < w3.heap.size := by omega); (try have hn3_0_1 : w.heap.size + 1 ≠ w3.heap.size := by omega); (try have hm3_0_1 : w3.heap.size ≠ w.heap.size + 1 := by omega); (try have hy3_0_2 : w.heap.size + 1 + 1 < w3.heap.size := by omega); (try have hp3_0_1 : w.heap.size < w3.heap.size + 1 := by omega); (try have hp3_0_2 : w.heap.size < w3.heap.size + 1 + 1 := by omega); (try have hy3_1_0 : w1.heap.size < w3.heap.size := by omega); (try have hn3_1_0 : w1.heap.size ≠ w3.heap.size := by omega); (try have hm3_1_0 : w3.heap.size ≠ w1.heap.size := by omega); (try have hy3_1_1 : w1.heap.size + 1 < w3.heap.size := by omega); (try have hn3_1_1 : w1.heap.size + 1 ≠ w3.heap.size := by omega); (try have hm3_1_1 : w3.heap.size ≠ w1.heap.size + 1 := by omega); (try have hy3_1_2 : w1.heap.size + 1 + 1 < w3.heap.size := by omega); (try have hp3_1_1 : w1.heap.size < w3.heap.size + 1 := by omega); (try have hp3_1_2 : w1.heap.size < w3.heap.size + 1 + 1 := by omega); (try have hy3_2_0 : w2.heap.size < w3.heap.size := by omega); (try have hn3_2_0 : w2.heap.size ≠ w3.heap.size := by omega); (try have hm3_2_0 : w3.heap.size ≠ w2.heap.size := by omega); (try have hy3_2_1 : w2.heap.size + 1 < w3.heap.size := by omega); (try have hn3_2_1 : w2.heap.size + 1 ≠ w3.heap.size := by omega); (try have hm3_2_1 : w3.heap.size ≠ w2.heap.size + 1 := by omega); (try have hy3_2_2 : w2.heap.size + 1 + 1 < w3.heap.size := by omega); (try have hp3_2_1 : w2.heap.size < w3.heap.size + 1 := by omega); (try have hp3_2_2 : w2.heap.size < w3.heap.size + 1 + 1 := by omega); (try have hg3_g1 : g1 < w3.heap.size := by omega); (try have hi3_g1 : g1 ≠ w3.heap.size := by omega); (try have hj3_g1 : w3.heap.size ≠ g1 := by omega); (try have hk3_g1 : g1 < w3.heap.size + 1 := by omega); (try have hg3_g2 : g2 < w3.heap.size := by omega); (try have hi3_g2 : g2 ≠ w3.heap.size := by omega); (try have hj3_g2 : w3.heap.size ≠ g2 := by omega); (try have hk3_g2 : g2 < w3.heap.size + 1 := by omega)) | (go_at_call 47; refine (HM.out _).mono ?_; rintro e w4 ⟨rfl, hb4⟩; obtain ⟨hc4, hf4⟩ := bcellB hb4; have hz4 := hb4.size; (try simp only [World.size_alloc, World.size_setCell, World.size_drew, World.heap_drewN] at hc4 hf4 hz4); (try have hy4_r_0 : wr.heap.size < w4.heap.size := by omega); (try have hn4_r_0 : wr.heap.size ≠ w4.heap.size := by omega); (try have hm4_r_0 : w4.heap.size ≠ wr.heap.size := by omega); (try have hy4_r_1 : wr.heap.size + 1 < w4.heap.size := by omega); (try have hn4_r_1 : wr.heap.size + 1 ≠ w4.heap.size := by omega); (try have hm4_r_1 : w4.heap.size ≠ wr.heap.size + 1 := by omega); (try have hy4_r_2 : wr.heap.size + 1 + 1 < w4.heap.size := by omega); (try have hp4_r_1 : wr.heap.size < w4.heap.size + 1 := by omega); (try have hp4_r_2 : wr.heap.size < w4.heap.size + 1 + 1 := by omega); (try have hy4_0_0 : w.heap.size < w4.heap.size := by omega); (try have hn4_0_0 : w.heap.size ≠ w4.heap.size := by omega); (try have hm4_0_0 : w4.heap.size ≠ w.heap.size := by omega); (try have hy4_0_1 : w.heap.size + 1 < w4.heap.size := by omega); (try have hn4_0_1 : w.heap.size + 1 ≠ w4.heap.size := by omega); (try have hm4_0_1 : w4.heap.size ≠ w.heap.size + 1 := by omega); (try have hy4_0_2 : w.heap.size + 1 + 1 < w4.heap.size := by omega); (try have hp4_0_1 : w.heap.size < w4.heap.size + 1 := by omega); (try have hp4_0_2 : w.heap.size < w4.heap.size + 1 + 1 := by omega); (try have hy4_1_0 : w1.heap.size < w4.heap.size := by omega); (try have hn4_1_0 : w1.heap.size ≠ w4.heap.size := by omega); (try have hm4_1_0 : w4.heap.size ≠ w1.heap.size := by omega); (try have hy4_1_1 : w1.heap.size + 1 < w4.heap.size := by omega); (try have hn4_1_1 : w1.heap.size + 1 ≠ w4.heap.size := by omega); (try have hm4_1_1 : w4.heap.size ≠ w1.heap.size + 1 := by omega); (try have hy4_1_2 : w1.heap.size + 1 + 1 < w4.heap.size := by omega); (try have hp4_1_1 : w1.heap.size < w4.heap.size + 1 := by omega); (try have hp4_1_2 : w1.heap.size < w4.heap.size + 1 + 1 := by omega); (try have hy4_2_0 : w2.heap.size < w4.heap.size := by omega); (try have hn4_2_0 : w2.heap.size ≠ w4.heap.size := by omega); (try have hm4_2_0 : w4.heap.size ≠ w2.heap.size := by omega); (try have hy4_2_1 : w2.heap.size + 1 < w4.heap.size := by omega); (try have hn4_2_1 : w2.heap.size + 1 ≠ w4.heap.size := by omega); (try have hm4_2_1 : w4.heap.size ≠ w2.heap.size + 1 := by omega); (try have hy4_2_2 : w2.heap.size + 1 + 1 < w4.heap.size := by omega); (try have hp4_2_1 : w2.heap.size < w4.heap.size + 1 := by omega); (try have hp4_2_2 : w2.heap.size < w4.heap.size + 1 + 1 := by omega); (try have hy4_3_0 : w3.heap.size < w4.heap.size := by omega); (try have hn4_3_0 : w3.heap.size ≠ w4.heap.size := by omega); (try have hm4_3_0 : w4.heap.size ≠ w3.heap.size := by omega); (try have hy4_3_1 : w3.heap.size + 1 < w4.heap.size := by omega); (try have hn4_3_1 : w3.heap.size + 1 ≠ w4.heap.size := by omega); (try have hm4_3_1 : w4.heap.size ≠ w3.heap.size + 1 := by omega); (try have hy4_3_2 : w3.heap.size + 1 + 1 < w4.heap.size := by omega); (try have hp4_3_1 : w3.heap.size < w4.heap.size + 1 := by omega); (try have hp4_3_2 : w3.heap.size < w4.heap.size + 1 + 1 := by omega); (try have hg4_g1 : g1 < w4.heap.size := by omega); (try have hi4_g1 : g1 ≠ w4.heap.size := by omega); (try have hj4_g1 : w4.heap.size ≠ g1 := by omega); (try have hk4_g1 : g1 < w4.heap.size + 1 := by omega); (try have hg4_g2 : g2 < w4.heap.size := by omega); (try have hi4_g2 : g2 ≠ w4.heap.size := by omega); (try have hj4_g2 : w4.heap.size ≠ g2 := by omega); (try have hk4_g2 : g2 < w4.heap.size + 1 := by omega)) | (at_builtin; refine wpList_app _ (o := ⟨some 31, _, _, _, _, _⟩) (ys := [u]) rfl _ _ rfl rfl (OwnI.grown Ho.out (show World.grownBy wr _ (some w1.heap.size) by (repeat' (first | (with_reducible exact World.grownBy.refl _ _) | (with_reducible refine grownDrewN ?_ _) | (with_reducible refine grownDrew ?_) | (with_reducible refine grownSet ?_ rfl _ _) | (with_reducible refine grownSetNew ?_ ?_ _ _) | (with_reducible refine grownAlloc ?_ ?_ _) | (with_reducible refine grownBelow ?_ ?_ (by assumption)) | go_size))) (Nat.lt_succ_self _)) (1) (1) (by first | (simp; done) | (simp; omega)) rfl (Reads.one _ u) (by (try simp only [List.length_nil, List.length_cons]); omega) (by first | exact Nat.le_refl _ | ((try simp only [World.size_alloc]); omega)) ?_; intro v6 w6 ho6 hb6 hg6 ht6; clear hg6 ht6; have hz6 := hb6.size; (try simp only [World.size_alloc] at hz6)); obtain ⟨A6, c6, rfl, hr6⟩ := ho6.form; obtain ⟨hc6, hf6⟩ := bcellB hb6; have hy6 : w1.heap.size < w6.heap.size := by omega)
        go_roundw
        case rel => exact ⟨_, xs ++ [u], _, _, _, by rw [takenOf_snoc, Hxs.out], Hst.out, Hgd'.out, ⟨A6, c6, by simp⟩, by simpa using OwnI.grown ho6 (show World.grownBy w6 _ (some w1.heap.size) by (repeat' (first | (with_reducible exact World.grownBy.refl _ _) | (with_reducible refine grownDrewN ?_ _) | (with_reducible refine grownDrew ?_) | (with_reducible refine grownSet ?_ rfl _ _) | (with_reducible refine grownSetNew ?_ ?_ _ _) | (with_reducible refine grownAlloc ?_ ?_ _) | (with_reducible refine grownBelow ?_ ?_ (by assumption)) | go_size))) (Nat.lt_succ_self _), (by (refine ⟨?_, ?_, ?_, ?_, ?_⟩ <;> first | (first | (simp [*]; done) | (simp [go_sem, *]; done)) | (first | (go_size; done) | ((try simp only [World.size_alloc, World.size_setCell, World.size_drew, World.heap_drewN]); omega)))), by (repeat' (first | (with_reducible exact Below.refl _ _) | (with_reducible assumption) | (with_reducible refine Below.drew ?_) | (with_reducible refine belowDrewN ?_ _) | (with_reducible refine Below.alloc ?_ ?_ _) | (with_reducible refine Below.setCell ?_ ?_ _) | (with_reducible refine belowStep (by assumption) ?_ ?_) | (with_reducible exact Below.size (by assumption)) | go_size))⟩
        case measure => simp [slen]; omega
      · by_cases hn : 0 < n
        · have hl25 : xs.length = 25 := by omega
          have h24 : decide (((xs.length : Nat) : Int) ≤ 24) = false := by simp; omega
          have E := Lib.hid (lstO_out25 (ok := engB) (Hwk.out.full hn (by omega)))
          have Eb : Hid (engB xs = false) := Lib.hid (engB_long (by omega))
          obtain ⟨A2, c2, e2, hr2⟩ := Ho.out.form
          injection e2 with e21 e22 e23
          subst e21
          have Hr2 := Lib.hid hr2
          have hxl9 : xs.length ≤ 25 := by omega
          clear hr2 hl25
          go_wp2_with fail
          refine (grEngel_any _ _ _ _ Hr2.out (by omega)).mono ?_; rintro e w7 ⟨rfl, hb7⟩; have hz7 := hb7.size; (try simp only [World.size_alloc, World.size_setCell, World.size_drew, World.heap_drewN] at hz7)
          rw [Eb.out]
          go_wp2
          go_ret2
          rw [E0.out, E.out]
          exact ret_rnil' (by (repeat' (first | (with_reducible exact Below.refl _ _) | (with_reducible assumption) | (with_reducible refine Below.drew ?_) | (with_reducible refine belowDrewN ?_ _) | (with_reducible refine Below.alloc ?_ ?_ _) | (with_reducible refine Below.setCell ?_ ?_ _) | (with_reducible refine belowStep (by assumption) ?_ ?_) | (with_reducible exact Below.size (by assumption)) | go_size)))
        · have hn0 : n = 0 := by omega
          have Hd := Lib.hid (Hwk.out.done (by omega))
          have E := Lib.hid (lstO_of25 (ok := engB) (fun _ h => engB_len h) Hd.out)
          rw [Hxs.out] at E
          obtain ⟨A2, c2, e2, hr2⟩ := Ho.out.form
          injection e2 with e21 e22 e23
          subst e21
          have Hr2 := Lib.hid hr2
          clear hr2 hgo
          cases he : engB xs with
          | true =>
            rw [he] at E
            go_wp2_with fail
            refine (grEngel_any _ _ _ _ Hr2.out (by omega)).mono ?_; rintro e w7 ⟨rfl, hb7⟩; have hz7 := hb7.size; (try simp only [World.size_alloc, World.size_setCell, World.size_drew, World.heap_drewN] at hz7)
            rw [he]
            go_wp2
            go_ret2
            rw [E0.out, E.out]
            exact ⟨_, _, rfl, Hr2.out.below hb7, by (repeat' (first | (with_reducible exact Below.refl _ _) | (with_reducible assumption) | (with_reducible refine Below.drew ?_) | (with_reducible refine belowDrewN ?_ _) | (with_reducible refine Below.alloc ?_ ?_ _) | (with_reducible refine Below.setCell ?_ ?_ _) | (with_reducible refine belowStep (by assumption) ?_ ?_) | (with_reducible exact Below.size (by assumption)) | go_size))⟩
          | false =>
            rw [he] at E
            go_wp2_with fail
            refine (grEngel_any _ _ _ _ Hr2.out (by omega)).mono ?_; rintro e w7 ⟨rfl, hb7⟩; have hz7 := hb7.size; (try simp only [World.size_alloc, World.size_setCell, World.size_drew, World.heap_drewN] at hz7)
            rw [he]
            go_wp2
            go_ret2
            rw [E0.out, E.out]
            exact ret_rnil' (by (repeat' (first | (with_reducible exact Below.refl _ _) | (with_reducible assumption) | (with_reducible refine Below.drew ?_) | (with_reducible refine belowDrewN ?_ _) | (with_reducible refine Below.alloc ?_ ?_ _) | (with_reducible refine Below.setCell ?_ ?_ _) | (with_reducible refine belowStep (by assumption) ?_ ?_) | (with_reducible exact Below.size (by assumption)) | go_size)))
end Go.Proofs.YtbjblkfibinenadGreatDoor


/-
  Contracts of the terms of Engel lists, in the program and in the model.
-/
namespace Go.Proofs.YtbjblkfibinenadGreatDoor
open Go.RowKit
def etO (n d : Int) : Option (List Int) := (engO n d).bind (prodL 1)
theorem engO_some {n d : Int} {xs : List Int} (h : engO n d = some xs) : engB xs = true := by
  unfold engO at h
  split at h
  · obtain ⟨es, _, _, hk⟩ := lstO_some h
    exact hk
  · cases h
theorem engB_prod {xs : List Int} (h : engB xs = true) : ∃ ps, prodL 1 xs = some ps ∧ expB ps = true ∧ ps.length = xs.length := by
  obtain ⟨h1, h2, h3⟩ := engB_parts h
  unfold engS at h3
  cases hp : prodL 1 xs with
  | none => rw [hp] at h3; cases h3
  | some ps =>
    rw [hp] at h3
    have h4 : sumL 0 1 ps = some (engN xs, engD xs) := h3
    exact ⟨ps, rfl, by rw [eng_exp h1 h2 hp, h4]; rfl, prodL_len hp⟩
theorem etO_len (n d : Int) : ((etO n d).getD []).length ≤ 24 := by
  unfold etO
  cases h : engO n d with
  | none => simp
  | some xs =>
    obtain ⟨ps, h1, h2, h3⟩ := engB_prod (engO_some h)
    rw [Option.bind_some, h1]
    exact expB_len h2
set_option maxHeartbeats 2000000 in
theorem engelTerms_any (n d : Int) (w : World) (rn : -9223372036854775808 ≤ n ∧ n ≤ 9223372036854775807) (rd : -9223372036854775808 ≤ d ∧ d ≤ 9223372036854775807) : Calls Tryz.prog 20 #[.agg #[.int .i64 n, .int .i64 d]] w (RetLB ((etO n d).getD []) (etO n d).isSome w) := by
  cases h : engO n d with
  | none =>
    have E : Hid (etO n d = none) := Lib.hid (by unfold etO; rw [h]; rfl)
    have H := Lib.hid h
    clear h
    go_enter Tryz.func20, Tryz.ntmps20
    go_wp2_with fail
    refine (engelOf_any _ _ _ rn rd).mono ?_; rintro e w1 ⟨v1, rfl, ho1, hb1⟩; have hz1 := hb1.size; (try simp only [World.size_alloc] at hz1)
    rw [H.out]
    go_wp2
    go_ret2
    rw [E.out]
    exact ⟨_, rfl, OwnI.empty _ _, by (repeat' (first | (with_reducible exact Below.refl _ _) | (with_reducible assumption) | (with_reducible refine Below.drew ?_) | (with_reducible refine belowDrewN ?_ _) | (with_reducible refine Below.alloc ?_ ?_ _) | (with_reducible refine Below.setCell ?_ ?_ _) | (with_reducible refine belowStep (by assumption) ?_ ?_) | (with_reducible exact Below.size (by assumption)) | go_size))⟩
  | some xs =>
    have hb := engO_some h
    have hp := engB_parts hb
    obtain ⟨ps, h1, h2, h3⟩ := engB_prod hb
    have E : Hid (etO n d = some ps) := Lib.hid (by unfold etO; rw [h]; exact h1)
    have P := Lib.hid (prod_some h1)
    have Hin := Lib.hid fun (x : Int) (hx : x ∈ xs) => (by have := up_in (by omega) hp.2.1 x hx; omega : 1 ≤ x ∧ x ≤ 1000000000)
    have hl := hp.1
    have H := Lib.hid h
    clear h hb hp h1 h2 h3
    go_enter Tryz.func20, Tryz.ntmps20
    go_wp2_with fail
    refine (engelOf_any _ _ _ rn rd).mono ?_; rintro e w1 ⟨v1, rfl, ho1, hb1⟩; have hz1 := hb1.size; (try simp only [World.size_alloc] at hz1)
    rw [H.out] at ho1
    rw [H.out]
    obtain ⟨A1, c1, rfl, hr1⟩ := (show OwnI w1 _ v1 xs from ho1).form
    have Hr1 := Lib.hid hr1
    clear ho1 hr1
    go_wp2_with fail
    refine (products_any _ _ _ _ Hr1.out (by omega) Hin.out hl).mono ?_; rintro e w2 ⟨v2, rfl, ho2, hb2⟩; have hz2 := hb2.size; (try simp only [World.size_alloc, World.size_setCell, World.size_drew, World.heap_drewN] at hz2)
    rw [P.out.1]
    rw [P.out.2] at ho2
    go_wp2
    go_ret2
    rw [E.out]
    exact ⟨_, rfl, ho2.mono (by (first | (go_size; done) | ((try simp only [World.size_alloc, World.size_setCell, World.size_drew, World.heap_drewN]); omega))), by (repeat' (first | (with_reducible exact Below.refl _ _) | (with_reducible assumption) | (with_reducible refine Below.drew ?_) | (with_reducible refine belowDrewN ?_ _) | (with_reducible refine Below.alloc ?_ ?_ _) | (with_reducible refine Below.setCell ?_ ?_ _) | (with_reducible refine belowStep (by assumption) ?_ ?_) | (with_reducible exact Below.size (by assumption)) | go_size))⟩
set_option maxRecDepth 100000 in
set_option maxHeartbeats 8000000 in
theorem spec_engelTerms_any (n d : Int) (w : World) : Calls Tryz.prog 39 #[.agg #[.int .i64 n, .int .i64 d]] w (RetRB ((etO n d).getD []) (etO n d).isSome w) := by
  cases h : engO n d with
  | none =>
    have E : Hid (etO n d = none) := Lib.hid (by unfold etO; rw [h]; rfl)
    have H := Lib.hid h
    clear h
    go_enter Tryz.func39, Tryz.ntmps39
    go_wp2_with fail
    refine (spec_engelOf_any _ _ _).mono ?_; rintro e w1 ⟨A1, c1, rfl, hr1, hb1⟩; have hz1 := hb1.size; (try simp only [World.size_alloc] at hz1)
    rw [H.out]
    go_wp2
    go_ret2
    rw [E.out]
    exact ret_rnil' (by (repeat' (first | (with_reducible exact Below.refl _ _) | (with_reducible assumption) | (with_reducible refine Below.drew ?_) | (with_reducible refine belowDrewN ?_ _) | (with_reducible refine Below.alloc ?_ ?_ _) | (with_reducible refine Below.setCell ?_ ?_ _) | (with_reducible refine belowStep (by assumption) ?_ ?_) | (with_reducible exact Below.size (by assumption)) | go_size)))
  | some xs =>
    have hb := engO_some h
    have hp := engB_parts hb
    obtain ⟨ps, h1, h2, h3⟩ := engB_prod hb
    have E : Hid (etO n d = some ps) := Lib.hid (by unfold etO; rw [h]; exact h1)
    have P := Lib.hid h1
    have X := Lib.hid h2
    have hpl := expB_len h2
    have Hin := Lib.hid fun (x : Int) (hx : x ∈ xs) => (by have := up_in (by omega) hp.2.1 x hx; omega : 1 ≤ x ∧ x ≤ 1000000000)
    have hl := hp.1
    have H := Lib.hid h
    clear h hb hp h1 h2 h3
    go_enter Tryz.func39, Tryz.ntmps39
    go_wp2_with fail
    refine (spec_engelOf_any _ _ _).mono ?_; rintro e w1 ⟨A1, c1, rfl, hr1, hb1⟩; have hz1 := hb1.size; (try simp only [World.size_alloc] at hz1)
    rw [H.out] at hr1
    rw [H.out]
    have Hr1 := Lib.hid (show Reads w1 A1 xs from hr1)
    clear hr1
    rw [Option.getD_some]
    go_wp2
    go_loopw [6, 7, 19] (fun v6 v7 v19 wr => ∃ (k : Nat) (p : Int) (qs : List Int), k ≤ xs.length ∧ v19 = .int .i64 k ∧ v7 = .int .i64 p ∧ (∃ A c, v6 = .slice A qs.length c) ∧ 1 ≤ p ∧ p ≤ 1000000000 ∧ qs.length ≤ k ∧ prodL 1 xs = (prodL p (xs.drop k)).map (qs ++ ·) ∧ OwnI wr w1.heap.size v6 qs ∧ Below w1.heap.size w1 wr) (fun _ _ v19 _ => xs.length - (intOf v19).toNat)
    case atStart => exact ⟨0, 1, [], Nat.zero_le _, rfl, rfl, ⟨_, _, rfl⟩, by omega, by omega, by simp, by cases h : prodL 1 xs <;> simp [h], OwnI.empty _ _, by (repeat' (first | (with_reducible exact Below.refl _ _) | (with_reducible assumption) | (with_reducible refine Below.drew ?_) | (with_reducible refine belowDrewN ?_ _) | (with_reducible refine Below.alloc ?_ ?_ _) | (with_reducible refine Below.setCell ?_ ?_ _) | (with_reducible refine belowStep (by assumption) ?_ ?_) | (with_reducible exact Below.size (by assumption)) | go_size))⟩
    case round =>
      obtain ⟨k, p, qs, hk, rfl, rfl, ⟨A, c, rfl⟩, p1, p2, hql, hr, ho, hbr⟩ := hrel
      have Hr := Lib.hid hr
      have Ho := Lib.hid ho
      have hzr := hbr.size
      clear hr ho
      by_cases hlt : k < xs.length
      · obtain ⟨b, o, x, rfl, hb, hx, hcell⟩ := (Hr1.out.below hbr).at_ hlt
        obtain ⟨x1, x2⟩ := Hin.out x (List.mem_of_getElem? hx)
        have hm := mul_bounds (a := p) (b := x) (by omega) p2 (by omega) x2
        have hm1 := mul_pos1 p1 x1
        have Hx := Lib.hid (drop_at hx)
        have hle : p * x ≤ 1000000000 := by
          refine Decidable.byContradiction fun hn => ?_
          have := Hr.out
          rw [P.out, Hx.out, prodL_no hn] at this
          cases this
        have Hst := Lib.hid (prodL_yes (xs := xs.drop (k + 1)) hle)
        clear hx
        go_wp2_with (at_builtin; refine wpList_app _ (o := ⟨some 29, _, _, _, _, _⟩) (ys := [p * x]) rfl _ _ rfl rfl (OwnI.below Ho.out (by (repeat' (first | (with_reducible exact Below.refl _ _) | (with_reducible assumption) | (with_reducible refine Below.drew ?_) | (with_reducible refine belowDrewN ?_ _) | (with_reducible refine Below.alloc ?_ ?_ _) | (with_reducible refine Below.setCell ?_ ?_ _) | (with_reducible refine belowStep (by assumption) ?_ ?_) | (with_reducible exact Below.size (by assumption)) | go_size)))) (1) (1) (by first | (simp; done) | (simp; omega)) rfl (Reads.one _ (p * x)) (by (try simp only [List.length_nil, List.length_cons]); omega) (by first | exact Nat.le_refl _ | ((try simp only [World.size_alloc]); omega)) ?_; intro v6 w6 ho6 hb6 hg6 ht6; clear hg6 ht6; have hz6 := hb6.size; (try simp only [World.size_alloc] at hz6))
        obtain ⟨A6, c6, rfl, hr6⟩ := ho6.form
        go_roundw
        case rel => exact ⟨k + 1, p * x, qs ++ [p * x], by omega, by go_num, rfl, ⟨A6, c6, by simp⟩, hm1, hle, by simp; omega, by
            rw [Hr.out, Hx.out, Hst.out, Option.map_map]
            congr 1
            funext z
            simp, by simpa using ho6, by (repeat' (first | (with_reducible exact Below.refl _ _) | (with_reducible assumption) | (with_reducible refine Below.drew ?_) | (with_reducible refine belowDrewN ?_ _) | (with_reducible refine Below.alloc ?_ ?_ _) | (with_reducible refine Below.setCell ?_ ?_ _) | (with_reducible refine belowStep (by assumption) ?_ ?_) | (with_reducible exact Below.size (by assumption)) | go_size))⟩
        case measure => simp [intOf]; omega
      · obtain rfl : k = xs.length := by omega
        have hq : qs = ps := by
          have := Hr.out
          rw [P.out, drop_all] at this
          simp only [prodL, Option.map_some, List.append_nil, Option.some.injEq] at this
          exact this.symm
        subst hq
        obtain ⟨A2, c2, e2, hr2⟩ := Ho.out.form
        injection e2 with e21 e22 e23
        subst e21
        have Hr2 := Lib.hid hr2
        clear hr2
        go_wp2_with fail
        refine (unList_yes _ _ _ _ Hr2.out (by omega) X.out).mono ?_; rintro e w7 ⟨rfl, hb7⟩; have hz7 := hb7.size; (try simp only [World.size_alloc, World.size_setCell, World.size_drew, World.heap_drewN] at hz7)
        go_wp2
        go_ret2
        rw [E.out]
        exact ⟨_, _, rfl, Hr2.out.below hb7, by (repeat' (first | (with_reducible exact Below.refl _ _) | (with_reducible assumption) | (with_reducible refine Below.drew ?_) | (with_reducible refine belowDrewN ?_ _) | (with_reducible refine Below.alloc ?_ ?_ _) | (with_reducible refine Below.setCell ?_ ?_ _) | (with_reducible refine belowStep (by assumption) ?_ ?_) | (with_reducible exact Below.size (by assumption)) | go_size))⟩
end Go.Proofs.YtbjblkfibinenadGreatDoor
