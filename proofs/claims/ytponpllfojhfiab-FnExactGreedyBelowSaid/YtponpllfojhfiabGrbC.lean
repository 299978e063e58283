
/-
  Contracts of the greedy numbers below a fraction, in the program and in the model.
-/
import Derived.Test.YtponpllfojhfiabNearC2
import Derived.Test.YtponpllfojhfiabNearC3
import Derived.Test.YtponpllfojhfiabListBy
namespace Go.Proofs.Ytponpllfojhfiab
open Go.RowKit
/-- one step: what is left is greater than 0, and the number can be taken away -/
theorem gb_round {K : Nat} {n0 d0 n d : Int} {ys : List Int} {j : Nat} (hs : (gbL K n0 d0).isSome = true) (hg : goodB n d = true) (hr : gbL K n0 d0 = (gbL (j + 1) n d).map (ys ++ ·)) :
    1 ≤ n ∧ d / n + 1 ≤ 1000000000 ∧ 1 ≤ d / n + 1 ∧ d ≤ n * (d / n + 1) ∧ tB n d (d / n + 1) = true ∧ goodB (tN n d (d / n + 1)) (tD n d (d / n + 1)) = true ∧ gbL K n0 d0 = (gbL j (tN n d (d / n + 1)) (tD n d (d / n + 1))).map ((ys ++ [d / n + 1]) ++ ·) := by
  have h1 : (gbL (j + 1) n d).isSome = true := by
    rw [hr] at hs
    simpa using hs
  obtain ⟨h2, h3, h4⟩ := gbL_step h1
  obtain ⟨b1, b2, b3, b4⟩ := good_bounds hg
  obtain ⟨p1, p2, p3, _⟩ := tB_parts h3
  have q := (div_in h2 (by omega : 0 ≤ d)).2.1
  refine ⟨h2, p1, by omega, p2, h3, tB_good b3 (by omega) h3, ?_⟩
  rw [hr, h4, Option.map_map]
  congr 1
  funext z
  simp
set_option maxRecDepth 100000 in
set_option maxHeartbeats 4000000 in
theorem spec_greedyBelow_any (n0 d0 k : Int) (w : World) (rk : -9223372036854775808 ≤ k ∧ k ≤ 9223372036854775807) : Calls Try.prog 19 #[.agg #[.int .i64 n0, .int .i64 d0], .int .i64 k] w (RetLB ((gbO n0 d0 k).getD []) (gbO n0 d0 k).isSome w) := by
  have HT := Lib.hid fun (w : World) => neTask_any n0 d0 k w
  cases hk : nearB n0 d0 k with
  | false =>
    rw [hk] at HT
    have E := Lib.hid (gbO_no hk)
    clear hk
    go_enter Try.func19, Try.ntmps19
    go_wp2_with fail
    refine (HT.out _).mono ?_; rintro e w1 ⟨rfl, hb1⟩; have hz1 := hb1.size; (try simp only [World.size_alloc, World.size_setCell, World.size_drew, World.heap_drewN] at hz1)
    go_wp2
    go_ret2
    rw [E.out]
    exact ⟨_, rfl, OwnI.empty _ _, by (repeat' (first | (with_reducible exact Below.refl _ _) | (with_reducible assumption) | (with_reducible refine Below.drew ?_) | (with_reducible refine belowDrewN ?_ _) | (with_reducible refine Below.alloc ?_ ?_ _) | (with_reducible refine Below.setCell ?_ ?_ _) | (with_reducible refine belowStep (by assumption) ?_ ?_) | (with_reducible exact Below.size (by assumption)) | go_size))⟩
  | true =>
    rw [hk] at HT
    have E := Lib.hid (gbO_yes hk)
    have HS := Lib.hid (near_greedy hk)
    obtain ⟨hg0, _, _, _, _, _, k1, k4⟩ := near_bounds hk
    have HG0 := Lib.hid hg0
    clear hk hg0
    obtain ⟨K, rfl⟩ := Int.eq_ofNat_of_zero_le (show 0 ≤ k by omega)
    rw [Int.toNat_natCast] at E HS
    have T0 := Lib.hid (TwoAt.new w n0 d0 27)
    go_enter Try.func19, Try.ntmps19
    go_wp2_with fail
    refine (HT.out _).mono ?_; rintro e w1 ⟨rfl, hb1⟩; have hz1 := hb1.size; (try simp only [World.size_alloc, World.size_setCell, World.size_drew, World.heap_drewN] at hz1)
    have T0 := Lib.hid (T0.out.below hb1)
    go_wp2
    go_loopw [1, 6] (fun v1 v6 wr => ∃ (j : Nat) (n d : Int) (ys : List Int), v1 = .int .i64 (j : Int) ∧ j + ys.length = K ∧ goodB n d = true ∧ gbL K n0 d0 = (gbL j n d).map (ys ++ ·) ∧ OwnI wr (w.heap.size + 1) v6 ys ∧ TwoAt wr w.heap.size n d ∧ Below w.heap.size w wr) (fun v1 _ _ => (intOf v1).toNat)
    case atStart =>
      refine ⟨K, n0, d0, [], rfl, by simp, HG0.out, ?_, OwnI.empty _ _, ?_, by (repeat' (first | (with_reducible exact Below.refl _ _) | (with_reducible assumption) | (with_reducible refine Below.drew ?_) | (with_reducible refine belowDrewN ?_ _) | (with_reducible refine Below.alloc ?_ ?_ _) | (with_reducible refine Below.setCell ?_ ?_ _) | (with_reducible refine belowStep (by assumption) ?_ ?_) | (with_reducible exact Below.size (by assumption)) | go_size))⟩
      · cases h : gbL K n0 d0 <;> simp
      · exact T0.out.below (by (repeat' (first | (with_reducible exact Below.refl _ _) | (with_reducible assumption) | (with_reducible refine Below.drew ?_) | (with_reducible refine belowDrewN ?_ _) | (with_reducible refine Below.alloc ?_ ?_ _) | (with_reducible refine Below.setCell ?_ ?_ _) | (with_reducible refine belowStep (by assumption) ?_ ?_) | (with_reducible exact Below.size (by assumption)) | go_size)))
    case round =>
      obtain ⟨j, n, d, ys, rfl, hj, hg, hr, ho, hq, hbr⟩ := hrel
      have hzr := hbr.size
      have Ho := Lib.hid ho
      have Hr := Lib.hid hr
      have Hg := Lib.hid hg
      have Hq := Lib.hid hq
      clear ho hr hg hq
      rcases j with _ | j
      · have hys : gbL K n0 d0 = some ys := by rw [Hr.out]; simp [gbL]
        have E := Lib.hid (E.out.trans hys)
        clear hys
        go_wp2
        go_ret2
        rw [E.out]
        exact ⟨_, rfl, Ho.out.mono (by omega), hbr⟩
      · obtain ⟨h1, h2, h3, h4, h5, h6, h7⟩ := gb_round HS.out Hg.out Hr.out
        obtain ⟨b1, b2, b3, b4⟩ := good_bounds Hg.out
        obtain ⟨_, _, p3, _, e2, e3⟩ := tB_parts h5
        have q0 := (div_in h1 (by omega : 0 ≤ d)).1
        have q2 := (div_in h1 (by omega : 0 ≤ d)).2.1
        have q3 := (div_in h1 (by omega : 0 ≤ d)).2.2
        have o1 : IntKind.i64.wrap (d / n) = d / n := IntWalk.i64_in _ (by omega)
        have o2 : IntKind.i64.wrap (d / n + 1) = d / n + 1 := IntWalk.i64_in _ (by omega)
        have hne : n ≠ 0 := by omega
        have HMU := Lib.hid fun (w : World) => minusUnit_any n d (d / n + 1) w Hg.out h3 h2 h4
        have hN : (n * (d / n + 1) - d) / gcdI (n * (d / n + 1) - d) (d * (d / n + 1)) = tN n d (d / n + 1) := by rw [e2, redN, if_pos p3]
        have hD : (d * (d / n + 1)) / gcdI (n * (d / n + 1) - d) (d * (d / n + 1)) = tD n d (d / n + 1) := by rw [e3, redD, if_pos p3]
        rw [hN, hD] at HMU
        have H6 := Lib.hid h6
        have H7 := Lib.hid h7
        clear hN hD e2 e3 p3 h5 h6 h7 h4
        have hyl : ys.length ≤ 4 := by omega
        have hj5 : j ≤ 4 := by omega
        have Hj := Lib.hid hj
        clear hj
        have hjp : (0 : Int) < ((j + 1 : Nat) : Int) := by omega
        have hjw : IntKind.i64.wrap (((j + 1 : Nat) : Int) - 1) = (j : Int) := by rw [show ((j + 1 : Nat) : Int) - 1 = (j : Int) by omega]; exact IntWalk.i64_in _ (by omega)
        obtain ⟨c3, c4, f3, f4, z2⟩ := Hq.out
        go_wp2_with (at_builtin; refine wpList_app _ (o := ⟨some 25, _, _, _, _, _⟩) (ys := [d / n + 1]) rfl _ _ rfl rfl (OwnI.below Ho.out (by (repeat' (first | (with_reducible exact Below.refl _ _) | (with_reducible assumption) | (with_reducible refine Below.drew ?_) | (with_reducible refine belowDrewN ?_ _) | (with_reducible refine Below.alloc ?_ ?_ _) | (with_reducible refine Below.setCell ?_ ?_ _) | (with_reducible refine belowStep (by assumption) ?_ ?_) | (with_reducible exact Below.size (by assumption)) | go_size)))) (1) (1) (by first | (simp; done) | (simp; omega)) rfl (Reads.one _ (d / n + 1)) (by (try simp only [List.length_append, List.length_take, List.length_drop, List.length_nil, List.length_singleton, List.length_cons]); omega) (by first | exact Nat.le_refl _ | ((try simp only [World.size_alloc, World.size_setCell, World.size_drew, World.heap_drewN]); omega)) ?_; intro v2 w2 ho2 hb2 hg2 ht2; clear hg2 ht2; have hz2 := hb2.size; (try simp only [World.size_alloc, World.size_setCell, World.size_drew, World.heap_drewN] at hz2))
        obtain ⟨hc2, hf2⟩ := bcellB hb2
        have hlt2 : w.heap.size < w2.heap.size := by omega
        have hlt6 := Nat.lt_succ_self w.heap.size
        clear hne hjp hjw q0 q2 q3 o1 o2
        have H123 := Lib.hid (And.intro h1 (And.intro h2 h3))
        clear h1 h2 h3
        go_region_with (first | (go_at_call 48; refine (unUnit_any _ _).mono ?_; rintro e w3 ⟨rfl, hb3⟩; obtain ⟨hc3, hf3⟩ := bcellB hb3; have hz3 := hb3.size; (try simp only [World.size_alloc, World.size_setCell, World.size_drew, World.heap_drewN] at hc3 hf3 hz3); (try have hy3_r_0 : wr.heap.size < w3.heap.size := by omega); (try have hn3_r_0 : wr.heap.size ≠ w3.heap.size := by omega); (try have hm3_r_0 : w3.heap.size ≠ wr.heap.size := by omega); (try have hy3_r_1 : wr.heap.size + 1 < w3.heap.size := by omega); (try have hn3_r_1 : wr.heap.size + 1 ≠ w3.heap.size := by omega); (try have hm3_r_1 : w3.heap.size ≠ wr.heap.size + 1 := by omega); (try have hy3_r_2 : wr.heap.size + 1 + 1 < w3.heap.size := by omega); (try have hp3_r_1 : wr.heap.size < w3.heap.size + 1 := by omega); (try have hp3_r_2 : wr.heap.size < w3.heap.size + 1 + 1 := by omega); (try have hy3_0_0 : w.heap.size < w3.heap.size := by omega); (try have hn3_0_0 : w.heap.size ≠ w3.heap.size := by omega); (try have hm3_0_0 : w3.heap.size ≠ w.heap.size := by omega); (try have hy3_0_1 : w.heap.size + 1 < w3.heap.size := by omega); (try have hn3_0_1 : w.heap.size + 1 ≠ w3.heap.size := by omega); (try have hm3_0_1 : w3.heap.size ≠ w.heap.size + 1 := by omega); (try have hy3_0_2 : w.heap.size + 1 + 1 < w3.heap.size := by omega); (try have hp3_0_1 : w.heap.size < w3.heap.size + 1 := by omega); (try have hp3_0_2 : w.heap.size < w3.heap.size + 1 + 1 := by omega); (try have hy3_1_0 : w1.heap.size < w3.heap.size := by omega); (try have hn3_1_0 : w1.heap.size ≠ w3.heap.size := by omega); (try have hm3_1_0 : w3.heap.size ≠ w1.heap.size := by omega); (try have hy3_1_1 : w1.heap.size + 1 < w3.heap.size := by omega); (try have hn3_1_1 : w1.heap.size + 1 ≠ w3.heap.size := by omega); (try have hm3_1_1 : w3.heap.size ≠ w1.heap.size + 1 := by omega); (try have hy3_1_2 : w1.heap.size + 1 + 1 < w3.heap.size := by omega); (try have hp3_1_1 : w1.heap.size < w3.heap.size + 1 := by omega); (try have hp3_1_2 : w1.heap.size < w3.heap.size + 1 + 1 := by omega); (try have hy3_2_0 : w2.heap.size < w3.heap.size := by omega); (try have hn3_2_0 : w2.heap.size ≠ w3.heap.size := by omega); (try have hm3_2_0 : w3.heap.size ≠ w2.heap.size := by omega); (try have hy3_2_1 : w2.heap.size + 1 < w3.heap.size := by omega); (try have hn3_2_1 : w2.heap.size + 1 ≠ w3.heap.size := by omega); (try have hm3_2_1 : w3.heap.size ≠ w2.heap.size + 1 := by omega); (try have hy3_2_2 : w2.heap.size + 1 + 1 < w3.heap.size := by omega); (try have hp3_2_1 : w2.heap.size < w3.heap.size + 1 := by omega); (try have hp3_2_2 : w2.heap.size < w3.heap.size + 1 + 1 := by omega); (try have hg3_g1 : g1 < w3.heap.size := by omega); (try have hi3_g1 : g1 ≠ w3.heap.size := by omega); (try have hj3_g1 : w3.heap.size ≠ g1 := by omega); (try have hk3_g1 : g1 < w3.heap.size + 1 := by omega); (try have hg3_g2 : g2 < w3.heap.size := by omega); (try have hi3_g2 : g2 ≠ w3.heap.size := by omega); (try have hj3_g2 : w3.heap.size ≠ g2 := by omega); (try have hk3_g2 : g2 < w3.heap.size + 1 := by omega)) | (go_at_call 47; refine (HMU.out _).mono ?_; rintro e w4 ⟨rfl, hb4⟩; obtain ⟨hc4, hf4⟩ := bcellB hb4; have hz4 := hb4.size; (try simp only [World.size_alloc, World.size_setCell, World.size_drew, World.heap_drewN] at hc4 hf4 hz4); (try have hy4_r_0 : wr.heap.size < w4.heap.size := by omega); (try have hn4_r_0 : wr.heap.size ≠ w4.heap.size := by omega); (try have hm4_r_0 : w4.heap.size ≠ wr.heap.size := by omega); (try have hy4_r_1 : wr.heap.size + 1 < w4.heap.size := by omega); (try have hn4_r_1 : wr.heap.size + 1 ≠ w4.heap.size := by omega); (try have hm4_r_1 : w4.heap.size ≠ wr.heap.size + 1 := by omega); (try have hy4_r_2 : wr.heap.size + 1 + 1 < w4.heap.size := by omega); (try have hp4_r_1 : wr.heap.size < w4.heap.size + 1 := by omega); (try have hp4_r_2 : wr.heap.size < w4.heap.size + 1 + 1 := by omega); (try have hy4_0_0 : w.heap.size < w4.heap.size := by omega); (try have hn4_0_0 : w.heap.size ≠ w4.heap.size := by omega); (try have hm4_0_0 : w4.heap.size ≠ w.heap.size := by omega); (try have hy4_0_1 : w.heap.size + 1 < w4.heap.size := by omega); (try have hn4_0_1 : w.heap.size + 1 ≠ w4.heap.size := by omega); (try have hm4_0_1 : w4.heap.size ≠ w.heap.size + 1 := by omega); (try have hy4_0_2 : w.heap.size + 1 + 1 < w4.heap.size := by omega); (try have hp4_0_1 : w.heap.size < w4.heap.size + 1 := by omega); (try have hp4_0_2 : w.heap.size < w4.heap.size + 1 + 1 := by omega); (try have hy4_1_0 : w1.heap.size < w4.heap.size := by omega); (try have hn4_1_0 : w1.heap.size ≠ w4.heap.size := by omega); (try have hm4_1_0 : w4.heap.size ≠ w1.heap.size := by omega); (try have hy4_1_1 : w1.heap.size + 1 < w4.heap.size := by omega); (try have hn4_1_1 : w1.heap.size + 1 ≠ w4.heap.size := by omega); (try have hm4_1_1 : w4.heap.size ≠ w1.heap.size + 1 := by omega); (try have hy4_1_2 : w1.heap.size + 1 + 1 < w4.heap.size := by omega); (try have hp4_1_1 : w1.heap.size < w4.heap.size + 1 := by omega); (try have hp4_1_2 : w1.heap.size < w4.heap.size + 1 + 1 := by omega); (try have hy4_2_0 : w2.heap.size < w4.heap.size := by omega); (try have hn4_2_0 : w2.heap.size ≠ w4.heap.size := by omega); (try have hm4_2_0 : w4.heap.size ≠ w2.heap.size := by omega); (try have hy4_2_1 : w2.heap.size + 1 < w4.heap.size := by omega); (try have hn4_2_1 : w2.heap.size + 1 ≠ w4.heap.size := by omega); (try have hm4_2_1 : w4.heap.size ≠ w2.heap.size + 1 := by omega); (try have hy4_2_2 : w2.heap.size + 1 + 1 < w4.heap.size := by omega); (try have hp4_2_1 : w2.heap.size < w4.heap.size + 1 := by omega); (try have hp4_2_2 : w2.heap.size < w4.heap.size + 1 + 1 := by omega); (try have hy4_3_0 : w3.heap.size < w4.heap.size := by omega); (try have hn4_3_0 : w3.heap.size ≠ w4.heap.size := by omega); (try have hm4_3_0 : w4.heap.size ≠ w3.heap.size := by omega); (try have hy4_3_1 : w3.heap.size + 1 < w4.heap.size := by omega); (try have hn4_3_1 : w3.heap.size + 1 ≠ w4.heap.size := by omega); (try have hm4_3_1 : w4.heap.size ≠ w3.heap.size + 1 := by omega); (try have hy4_3_2 : w3.heap.size + 1 + 1 < w4.heap.size := by omega); (try have hp4_3_1 : w3.heap.size < w4.heap.size + 1 := by omega); (try have hp4_3_2 : w3.heap.size < w4.heap.size + 1 + 1 := by omega); (try have hg4_g1 : g1 < w4.heap.size := by omega); (try have hi4_g1 : g1 ≠ w4.heap.size := by omega); (try have hj4_g1 : w4.heap.size ≠ g1 := by omega); (try have hk4_g1 : g1 < w4.heap.size + 1 := by omega); (try have hg4_g2 : g2 < w4.heap.size := by omega); (try have hi4_g2 : g2 ≠ w4.heap.size := by omega); (try have hj4_g2 : w4.heap.size ≠ g2 := by omega); (try have hk4_g2 : g2 < w4.heap.size + 1 := by omega)))
        all_goals
          go_wp2
          go_roundw
          case rel =>
            refine ⟨j, _, _, ys ++ [d / n + 1], by go_num, by have := Hj.out; (try simp only [List.length_append, List.length_singleton]); omega, H6.out, H7.out, ?_, (by (refine ⟨?_, ?_, ?_, ?_, ?_⟩ <;> first | (first | (simp [*, World.cell?_alloc_some, World.cell?_setCell_far]; done) | (simp [go_sem, *]; done)) | (first | (go_size; done) | ((try simp only [World.size_alloc, World.size_setCell, World.size_drew, World.heap_drewN]); omega)))), by (repeat' (first | (with_reducible exact Below.refl _ _) | (with_reducible assumption) | (with_reducible refine Below.drew ?_) | (with_reducible refine belowDrewN ?_ _) | (with_reducible refine Below.alloc ?_ ?_ _) | (with_reducible refine Below.setCell ?_ ?_ _) | (with_reducible refine belowStep (by assumption) ?_ ?_) | (with_reducible exact Below.size (by assumption)) | go_size))⟩
            exact OwnI.grown (w := w2) (by simpa using ho2) (show World.grownBy w2 _ (some w.heap.size) by first | ((repeat' (first | (with_reducible exact World.grownBy.refl _ _) | (with_reducible refine grownDrewN ?_ _) | (with_reducible refine grownDrew ?_) | (with_reducible refine grownSet ?_ rfl _ _) | (with_reducible refine grownSetNew ?_ ?_ _ _) | (with_reducible refine grownAlloc ?_ ?_ _) | (with_reducible refine grownBelow ?_ ?_ (by assumption)) | go_size)); done) | (refine grownDrew ?_; (repeat' (first | (with_reducible exact World.grownBy.refl _ _) | (with_reducible refine grownDrewN ?_ _) | (with_reducible refine grownDrew ?_) | (with_reducible refine grownSet ?_ rfl _ _) | (with_reducible refine grownSetNew ?_ ?_ _ _) | (with_reducible refine grownAlloc ?_ ?_ _) | (with_reducible refine grownBelow ?_ ?_ (by assumption)) | go_size))) | (repeat' (first | exact World.grownBy.refl _ _ | refine grownDrew ?_ | refine grownSet ?_ rfl _ _ | refine grownBelow ?_ ?_ (by assumption) | go_size))) (Nat.lt_succ_self _)
          case measure => (simp [intOf]) <;> omega
end Go.Proofs.Ytponpllfojhfiab
