
/-
  Contract of ExpandOver in the program.
-/
import Derived.Test.YtbjblkfibinenadOvE
import Derived.Test.YtbjblkfibinenadQuoC
namespace Go.Proofs.Ytbjblkfibinenad
open Go.RowKit
theorem ovT_qLi (N : Nat) (l : List Nat) : ovT N l = qL (N : Int) (ints l) := by
  unfold ovT qL ints
  rw [List.map_map, List.map_map]
  exact List.map_congr_left fun x _ => Int.natCast_ediv N x
theorem dfO_div {N : Nat} {s : Int} {l : List Nat} (h : dfO (N : Int) s = some l) : ∀ d ∈ l, N % d = 0 := by
  unfold dfO at h
  split at h
  · injection h with h
    subst h
    exact fun d hd => ((dsc_mem _ _ d).1 ((pick_sub _ _).subset hd)).2.2
  · cases h
set_option maxRecDepth 100000 in
set_option maxHeartbeats 8000000 in
theorem expandOver_any (n d N : Int) (w : World) (rn : -9223372036854775808 ≤ n ∧ n ≤ 9223372036854775807) (rd : -9223372036854775808 ≤ d ∧ d ≤ 9223372036854775807) : Calls Try.prog 11 #[.agg #[.int .i64 n, .int .i64 d], .int .i64 N] w (RetLB ((ovO n d N).getD []) (ovO n d N).isSome w) := by
  obtain ⟨i0, hi, hj0, hj1, hj2⟩ := info_parts intInfo
  obtain ⟨rn1, rn2⟩ := rn
  obtain ⟨rd1, rd2⟩ := rd
  have HG := Lib.hid fun (w : World) => isFraction_any n d w rn1 rn2 rd1 rd2
  have HN := Lib.hid fun (w : World) => isNumber_any N w
  cases hg : goodB n d with
  | false =>
    have E := Lib.hid (ovO_bad (N := N) hg)
    rw [hg] at HG
    clear hg
    go_enter Try.func11, Try.ntmps11
    go_wp2_with fail
    refine (HG.out _).mono ?_; rintro e w1 ⟨rfl, hb1⟩; obtain ⟨hc1, hf1⟩ := bcellB hb1; have hz1 := hb1.size; (try simp only [World.size_alloc] at hc1 hf1 hz1); (try have hy1_r_0 : wr.heap.size < w1.heap.size := by omega); (try have hn1_r_0 : wr.heap.size ≠ w1.heap.size := by omega); (try have hm1_r_0 : w1.heap.size ≠ wr.heap.size := by omega); (try have hy1_r_1 : wr.heap.size + 1 < w1.heap.size := by omega); (try have hn1_r_1 : wr.heap.size + 1 ≠ w1.heap.size := by omega); (try have hm1_r_1 : w1.heap.size ≠ wr.heap.size + 1 := by omega); (try have hy1_r_2 : wr.heap.size + 1 + 1 < w1.heap.size := by omega); (try have hp1_r_1 : wr.heap.size < w1.heap.size + 1 := by omega); (try have hp1_r_2 : wr.heap.size < w1.heap.size + 1 + 1 := by omega); (try have hy1_0_0 : w.heap.size < w1.heap.size := by omega); (try have hn1_0_0 : w.heap.size ≠ w1.heap.size := by omega); (try have hm1_0_0 : w1.heap.size ≠ w.heap.size := by omega); (try have hy1_0_1 : w.heap.size + 1 < w1.heap.size := by omega); (try have hn1_0_1 : w.heap.size + 1 ≠ w1.heap.size := by omega); (try have hm1_0_1 : w1.heap.size ≠ w.heap.size + 1 := by omega); (try have hy1_0_2 : w.heap.size + 1 + 1 < w1.heap.size := by omega); (try have hp1_0_1 : w.heap.size < w1.heap.size + 1 := by omega); (try have hp1_0_2 : w.heap.size < w1.heap.size + 1 + 1 := by omega); (try have hg1_g1 : g1 < w1.heap.size := by omega); (try have hi1_g1 : g1 ≠ w1.heap.size := by omega); (try have hj1_g1 : w1.heap.size ≠ g1 := by omega); (try have hk1_g1 : g1 < w1.heap.size + 1 := by omega); (try have hg1_g2 : g2 < w1.heap.size := by omega); (try have hi1_g2 : g2 ≠ w1.heap.size := by omega); (try have hj1_g2 : w1.heap.size ≠ g2 := by omega); (try have hk1_g2 : g2 < w1.heap.size + 1 := by omega)
    go_wp2
    go_ret2
    rw [E.out]
    exact ⟨_, rfl, OwnI.empty _ _, by (repeat' (first | (with_reducible exact Below.refl _ _) | (with_reducible assumption) | (with_reducible refine Below.drew ?_) | (with_reducible refine belowDrewN ?_ _) | (with_reducible refine Below.alloc ?_ ?_ _) | (with_reducible refine Below.setCell ?_ ?_ _) | (with_reducible refine belowStep (by assumption) ?_ ?_) | (with_reducible exact Below.size (by assumption)) | go_size))⟩
  | true =>
    cases hn : numB N with
    | false =>
      have E := Lib.hid (ovO_num (n := n) (d := d) hn)
      rw [hg] at HG
      rw [hn] at HN
      clear hg hn
      go_enter Try.func11, Try.ntmps11
      go_wp2_with fail
      refine (HG.out _).mono ?_; rintro e w1 ⟨rfl, hb1⟩; obtain ⟨hc1, hf1⟩ := bcellB hb1; have hz1 := hb1.size; (try simp only [World.size_alloc] at hc1 hf1 hz1); (try have hy1_r_0 : wr.heap.size < w1.heap.size := by omega); (try have hn1_r_0 : wr.heap.size ≠ w1.heap.size := by omega); (try have hm1_r_0 : w1.heap.size ≠ wr.heap.size := by omega); (try have hy1_r_1 : wr.heap.size + 1 < w1.heap.size := by omega); (try have hn1_r_1 : wr.heap.size + 1 ≠ w1.heap.size := by omega); (try have hm1_r_1 : w1.heap.size ≠ wr.heap.size + 1 := by omega); (try have hy1_r_2 : wr.heap.size + 1 + 1 < w1.heap.size := by omega); (try have hp1_r_1 : wr.heap.size < w1.heap.size + 1 := by omega); (try have hp1_r_2 : wr.heap.size < w1.heap.size + 1 + 1 := by omega); (try have hy1_0_0 : w.heap.size < w1.heap.size := by omega); (try have hn1_0_0 : w.heap.size ≠ w1.heap.size := by omega); (try have hm1_0_0 : w1.heap.size ≠ w.heap.size := by omega); (try have hy1_0_1 : w.heap.size + 1 < w1.heap.size := by omega); (try have hn1_0_1 : w.heap.size + 1 ≠ w1.heap.size := by omega); (try have hm1_0_1 : w1.heap.size ≠ w.heap.size + 1 := by omega); (try have hy1_0_2 : w.heap.size + 1 + 1 < w1.heap.size := by omega); (try have hp1_0_1 : w.heap.size < w1.heap.size + 1 := by omega); (try have hp1_0_2 : w.heap.size < w1.heap.size + 1 + 1 := by omega); (try have hg1_g1 : g1 < w1.heap.size := by omega); (try have hi1_g1 : g1 ≠ w1.heap.size := by omega); (try have hj1_g1 : w1.heap.size ≠ g1 := by omega); (try have hk1_g1 : g1 < w1.heap.size + 1 := by omega); (try have hg1_g2 : g2 < w1.heap.size := by omega); (try have hi1_g2 : g2 ≠ w1.heap.size := by omega); (try have hj1_g2 : w1.heap.size ≠ g2 := by omega); (try have hk1_g2 : g2 < w1.heap.size + 1 := by omega)
      go_wp2_with fail
      refine (HN.out _).mono ?_; rintro e w2 ⟨rfl, k2, rfl⟩
      go_wp2
      go_ret2
      rw [E.out]
      exact ⟨_, rfl, OwnI.empty _ _, by (repeat' (first | (with_reducible exact Below.refl _ _) | (with_reducible assumption) | (with_reducible refine Below.drew ?_) | (with_reducible refine belowDrewN ?_ _) | (with_reducible refine Below.alloc ?_ ?_ _) | (with_reducible refine Below.setCell ?_ ?_ _) | (with_reducible refine belowStep (by assumption) ?_ ?_) | (with_reducible exact Below.size (by assumption)) | go_size))⟩
    | true =>
      obtain ⟨N, rfl, h1, h2⟩ := numB_nat hn
      obtain ⟨g1, g2, g3, g4⟩ := good_bounds hg
      obtain ⟨a, rfl⟩ := Int.eq_ofNat_of_zero_le g1
      obtain ⟨D, rfl⟩ := Int.eq_ofNat_of_zero_le (show 0 ≤ d by omega)
      have hD1 : 1 ≤ D := by omega
      have hne : (D : Int) ≠ 0 := by omega
      obtain ⟨e1, e2, e3, e4⟩ := @remv2 N D
      have HGG := Lib.hid hg
      have HNN := Lib.hid hn
      rw [hg] at HG
      rw [hn] at HN
      clear hg hn
      by_cases hm : N % D = 0
      · obtain ⟨q1, q2, q3, q4⟩ := quo_of h1 hD1 hm
        have HQ3 := Lib.hid q3
        have HQ4 := Lib.hid q4
        rw [hm] at e1 e2
        have hmul : (N / D) * a ≤ 2000000000000 := Nat.le_trans (Nat.mul_le_mul (show N / D ≤ 2000 by omega) (show a ≤ 1000000000 by omega)) (by decide)
        have HD : Hid (∀ w x, x = ((N / D * a : Nat) : Int) → Calls Try.prog 35 #[.int .i64 (N : Int), .int .i64 x] w (RetLB (ints ((dfO (N : Int) ((N : Int) / (D : Int) * (a : Int))).getD [])) (dfO (N : Int) ((N : Int) / (D : Int) * (a : Int))).isSome w)) := Lib.hid fun w x hx => by
          subst hx
          have := divisorsFor_any (N : Int) ((N / D * a : Nat) : Int) w
          rwa [show ((N / D * a : Nat) : Int) = (N : Int) / (D : Int) * (a : Int) from by rw [q4, Int.natCast_mul]] at this ⊢
        have hS1 : ((N / D : Nat) : Int) * (a : Int) = ((N / D * a : Nat) : Int) := (Int.natCast_mul _ _).symm
        have T0 := Lib.hid (TwoAt.new w (a : Int) (D : Int) 27)
        clear q3 q4 hm HQ4
        obtain ⟨Q, hQ⟩ : ∃ Q, Q = N / D := ⟨_, rfl⟩
        rw [← hQ] at q1 q2 e3 e4 hmul hS1 HD
        obtain ⟨S, hSd⟩ : ∃ S, S = Q * a := ⟨_, rfl⟩
        rw [← hSd] at hmul hS1 HD
        have hwS : IntKind.i64.wrap ((Q : Int) * (a : Int)) = (S : Int) := by rw [hS1]; exact IntWalk.i64_in _ (by omega)
        have hneN : D ≠ 0 := by omega
        have hneb : ((D : Int) == 0) = false := by simp; omega
        have hneD : decide ((D : Int) = 0) = false := decide_eq_false hne
        have hwS2 : IntKind.i64.wrap (S : Int) = (S : Int) := IntWalk.i64_in _ (by omega)
        have hwQ : IntKind.i64.wrap (Q : Int) = (Q : Int) := IntWalk.i64_in _ (by omega)
        have hwQ2 : IntKind.i64.wrap ((N : Int).tdiv (D : Int)) = (Q : Int) := by rw [e3]; exact hwQ
        have HX : Hid (IntKind.i64.wrap (IntKind.i64.wrap ((N : Int).tdiv (D : Int)) * (a : Int)) = (S : Int)) := Lib.hid (by rw [e3, IntWalk.i64_in (Q : Int) (by omega)]; exact hwS)
        clear hQ hSd
        cases ho : dfO (N : Int) ((N : Int) / (D : Int) * (a : Int)) with
        | none =>
          have E := Lib.hid (ovO_none ho)
          rw [ho] at HD
          clear ho
          go_enter Try.func11, Try.ntmps11
          go_wp2_with fail
          refine (HG.out _).mono ?_; rintro e w1 ⟨rfl, hb1⟩; obtain ⟨hc1, hf1⟩ := bcellB hb1; have hz1 := hb1.size; (try simp only [World.size_alloc] at hc1 hf1 hz1); (try have hy1_r_0 : wr.heap.size < w1.heap.size := by omega); (try have hn1_r_0 : wr.heap.size ≠ w1.heap.size := by omega); (try have hm1_r_0 : w1.heap.size ≠ wr.heap.size := by omega); (try have hy1_r_1 : wr.heap.size + 1 < w1.heap.size := by omega); (try have hn1_r_1 : wr.heap.size + 1 ≠ w1.heap.size := by omega); (try have hm1_r_1 : w1.heap.size ≠ wr.heap.size + 1 := by omega); (try have hy1_r_2 : wr.heap.size + 1 + 1 < w1.heap.size := by omega); (try have hp1_r_1 : wr.heap.size < w1.heap.size + 1 := by omega); (try have hp1_r_2 : wr.heap.size < w1.heap.size + 1 + 1 := by omega); (try have hy1_0_0 : w.heap.size < w1.heap.size := by omega); (try have hn1_0_0 : w.heap.size ≠ w1.heap.size := by omega); (try have hm1_0_0 : w1.heap.size ≠ w.heap.size := by omega); (try have hy1_0_1 : w.heap.size + 1 < w1.heap.size := by omega); (try have hn1_0_1 : w.heap.size + 1 ≠ w1.heap.size := by omega); (try have hm1_0_1 : w1.heap.size ≠ w.heap.size + 1 := by omega); (try have hy1_0_2 : w.heap.size + 1 + 1 < w1.heap.size := by omega); (try have hp1_0_1 : w.heap.size < w1.heap.size + 1 := by omega); (try have hp1_0_2 : w.heap.size < w1.heap.size + 1 + 1 := by omega); (try have hg1_g1 : g1 < w1.heap.size := by omega); (try have hi1_g1 : g1 ≠ w1.heap.size := by omega); (try have hj1_g1 : w1.heap.size ≠ g1 := by omega); (try have hk1_g1 : g1 < w1.heap.size + 1 := by omega); (try have hg1_g2 : g2 < w1.heap.size := by omega); (try have hi1_g2 : g2 ≠ w1.heap.size := by omega); (try have hj1_g2 : w1.heap.size ≠ g2 := by omega); (try have hk1_g2 : g2 < w1.heap.size + 1 := by omega)
          obtain ⟨t1, t2, t3, t4, t5⟩ := T0.out.below hb1
          go_wp2_with fail
          refine (HN.out _).mono ?_; rintro e w2 ⟨rfl, k2, rfl⟩
          go_upto_region 3 with fail
          go_cut [7] (fun s7 wx => s7 = .bool false ∧ Below w.heap.size w wx)
          case first =>
            go_region_held3 (fun w' => w'.cell? ⟨w.heap.size, 0, none⟩ = some (.int .i64 (a : Int)) ∧ w'.cell? ⟨w.heap.size, 1, none⟩ = some (.int .i64 (D : Int))) (go_keep) (first | (go_at_call 35; refine (HD.out _ _ (by first | with_reducible rfl | with_reducible exact hwS2 | with_reducible exact HX.out)).mono ?_; rintro e w3 ⟨v3, rfl, ho3, hb3⟩; obtain ⟨hc3, hf3⟩ := bcellB hb3; have hz3 := hb3.size; (try simp only [World.heap_drewN] at hc3 hf3 hz3); (try have hy3_00 : w.heap.size < w3.heap.size := by omega); (try have hn3_00 : w.heap.size ≠ w3.heap.size := by omega); (try have hm3_00 : w3.heap.size ≠ w.heap.size := by omega); (try have hp3_00 : w.heap.size < w3.heap.size + 1 := by omega); (try have hy3_01 : w.heap.size + 1 < w3.heap.size := by omega); (try have hn3_01 : w.heap.size + 1 ≠ w3.heap.size := by omega); (try have hm3_01 : w3.heap.size ≠ w.heap.size + 1 := by omega); (try have hp3_01 : w.heap.size + 1 < w3.heap.size + 1 := by omega); (try have hy3_10 : w1.heap.size < w3.heap.size := by omega); (try have hn3_10 : w1.heap.size ≠ w3.heap.size := by omega); (try have hm3_10 : w3.heap.size ≠ w1.heap.size := by omega); (try have hp3_10 : w1.heap.size < w3.heap.size + 1 := by omega); (try have hy3_11 : w1.heap.size + 1 < w3.heap.size := by omega); (try have hn3_11 : w1.heap.size + 1 ≠ w3.heap.size := by omega); (try have hm3_11 : w3.heap.size ≠ w1.heap.size + 1 := by omega); (try have hp3_11 : w1.heap.size + 1 < w3.heap.size + 1 := by omega)))
            all_goals go_wp2_with fail
            all_goals go_meet
            all_goals exact ⟨rfl, by (repeat' (first | (with_reducible exact Below.refl _ _) | (with_reducible assumption) | (with_reducible refine Below.drew ?_) | (with_reducible refine belowDrewN ?_ _) | (with_reducible refine Below.alloc ?_ ?_ _) | (with_reducible refine Below.setCell ?_ ?_ _) | (with_reducible refine belowStep (by assumption) ?_ ?_) | (with_reducible exact Below.size (by assumption)) | go_size))⟩
          case rest =>
            obtain ⟨w3, rfl⟩ : ∃ x : World, x = wc := ⟨_, rfl⟩
            obtain ⟨rfl, hb3⟩ := hcut
            have hz3 := hb3.size
            go_wp2
            go_ret2
            rw [E.out]
            exact ⟨_, rfl, OwnI.empty _ _, by (repeat' (first | (with_reducible exact Below.refl _ _) | (with_reducible assumption) | (with_reducible refine Below.drew ?_) | (with_reducible refine belowDrewN ?_ _) | (with_reducible refine Below.alloc ?_ ?_ _) | (with_reducible refine Below.setCell ?_ ?_ _) | (with_reducible refine belowStep (by assumption) ?_ ?_) | (with_reducible exact Below.size (by assumption)) | go_size))⟩
        | some l =>
          have E := Lib.hid (ovO_some HGG.out HNN.out HQ3.out ho)
          obtain ⟨hm1, hm2⟩ := dfO_mem ho
          have HM := Lib.hid hm1
          have HMD : Hid (∀ d ∈ l, N % d = 0) := Lib.hid (dfO_div ho)
          rw [ho] at HD
          clear ho hm1
          go_enter Try.func11, Try.ntmps11
          go_wp2_with fail
          refine (HG.out _).mono ?_; rintro e w1 ⟨rfl, hb1⟩; obtain ⟨hc1, hf1⟩ := bcellB hb1; have hz1 := hb1.size; (try simp only [World.size_alloc] at hc1 hf1 hz1); (try have hy1_r_0 : wr.heap.size < w1.heap.size := by omega); (try have hn1_r_0 : wr.heap.size ≠ w1.heap.size := by omega); (try have hm1_r_0 : w1.heap.size ≠ wr.heap.size := by omega); (try have hy1_r_1 : wr.heap.size + 1 < w1.heap.size := by omega); (try have hn1_r_1 : wr.heap.size + 1 ≠ w1.heap.size := by omega); (try have hm1_r_1 : w1.heap.size ≠ wr.heap.size + 1 := by omega); (try have hy1_r_2 : wr.heap.size + 1 + 1 < w1.heap.size := by omega); (try have hp1_r_1 : wr.heap.size < w1.heap.size + 1 := by omega); (try have hp1_r_2 : wr.heap.size < w1.heap.size + 1 + 1 := by omega); (try have hy1_0_0 : w.heap.size < w1.heap.size := by omega); (try have hn1_0_0 : w.heap.size ≠ w1.heap.size := by omega); (try have hm1_0_0 : w1.heap.size ≠ w.heap.size := by omega); (try have hy1_0_1 : w.heap.size + 1 < w1.heap.size := by omega); (try have hn1_0_1 : w.heap.size + 1 ≠ w1.heap.size := by omega); (try have hm1_0_1 : w1.heap.size ≠ w.heap.size + 1 := by omega); (try have hy1_0_2 : w.heap.size + 1 + 1 < w1.heap.size := by omega); (try have hp1_0_1 : w.heap.size < w1.heap.size + 1 := by omega); (try have hp1_0_2 : w.heap.size < w1.heap.size + 1 + 1 := by omega); (try have hg1_g1 : g1 < w1.heap.size := by omega); (try have hi1_g1 : g1 ≠ w1.heap.size := by omega); (try have hj1_g1 : w1.heap.size ≠ g1 := by omega); (try have hk1_g1 : g1 < w1.heap.size + 1 := by omega); (try have hg1_g2 : g2 < w1.heap.size := by omega); (try have hi1_g2 : g2 ≠ w1.heap.size := by omega); (try have hj1_g2 : w1.heap.size ≠ g2 := by omega); (try have hk1_g2 : g2 < w1.heap.size + 1 := by omega)
          obtain ⟨t1, t2, t3, t4, t5⟩ := T0.out.below hb1
          go_wp2_with fail
          refine (HN.out _).mono ?_; rintro e w2 ⟨rfl, k2, rfl⟩
          go_upto_region 3 with fail
          go_cut [6, 7] (fun s6 s7 wx => s7 = .bool true ∧ OwnI wx w.heap.size s6 (ints l) ∧ Below w.heap.size w wx)
          case first =>
            go_region_held3 (fun w' => w'.cell? ⟨w.heap.size, 0, none⟩ = some (.int .i64 (a : Int)) ∧ w'.cell? ⟨w.heap.size, 1, none⟩ = some (.int .i64 (D : Int))) (go_keep) (first | (go_at_call 35; refine (HD.out _ _ (by first | with_reducible rfl | with_reducible exact hwS2 | with_reducible exact HX.out)).mono ?_; rintro e w3 ⟨v3, rfl, ho3, hb3⟩; obtain ⟨hc3, hf3⟩ := bcellB hb3; have hz3 := hb3.size; (try simp only [World.heap_drewN] at hc3 hf3 hz3); (try have hy3_00 : w.heap.size < w3.heap.size := by omega); (try have hn3_00 : w.heap.size ≠ w3.heap.size := by omega); (try have hm3_00 : w3.heap.size ≠ w.heap.size := by omega); (try have hp3_00 : w.heap.size < w3.heap.size + 1 := by omega); (try have hy3_01 : w.heap.size + 1 < w3.heap.size := by omega); (try have hn3_01 : w.heap.size + 1 ≠ w3.heap.size := by omega); (try have hm3_01 : w3.heap.size ≠ w.heap.size + 1 := by omega); (try have hp3_01 : w.heap.size + 1 < w3.heap.size + 1 := by omega); (try have hy3_10 : w1.heap.size < w3.heap.size := by omega); (try have hn3_10 : w1.heap.size ≠ w3.heap.size := by omega); (try have hm3_10 : w3.heap.size ≠ w1.heap.size := by omega); (try have hp3_10 : w1.heap.size < w3.heap.size + 1 := by omega); (try have hy3_11 : w1.heap.size + 1 < w3.heap.size := by omega); (try have hn3_11 : w1.heap.size + 1 ≠ w3.heap.size := by omega); (try have hm3_11 : w3.heap.size ≠ w1.heap.size + 1 := by omega); (try have hp3_11 : w1.heap.size + 1 < w3.heap.size + 1 := by omega)))
            all_goals go_wp2_with fail
            all_goals go_meet
            all_goals exact ⟨rfl, OwnI.mono (OwnI.below ho3 (by (repeat' (first | (with_reducible exact Below.refl _ _) | (with_reducible assumption) | (with_reducible refine Below.drew ?_) | (with_reducible refine belowDrewN ?_ _) | (with_reducible refine Below.alloc ?_ ?_ _) | (with_reducible refine Below.setCell ?_ ?_ _) | (with_reducible refine belowStep (by assumption) ?_ ?_) | (with_reducible exact Below.size (by assumption)) | go_size)))) (by (first | (go_size; done) | ((try simp only [World.size_alloc, World.size_setCell, World.size_drew, World.heap_drewN]); omega))), by (repeat' (first | (with_reducible exact Below.refl _ _) | (with_reducible assumption) | (with_reducible refine Below.drew ?_) | (with_reducible refine belowDrewN ?_ _) | (with_reducible refine Below.alloc ?_ ?_ _) | (with_reducible refine Below.setCell ?_ ?_ _) | (with_reducible refine belowStep (by assumption) ?_ ?_) | (with_reducible exact Below.size (by assumption)) | go_size))⟩
          case rest =>
            obtain ⟨w3, rfl⟩ : ∃ x : World, x = wc := ⟨_, rfl⟩
            obtain ⟨rfl, ho3, hb3⟩ := hcut
            obtain ⟨A3, c3, hs3, hr3⟩ := ho3.form
            subst hs3
            have hz3 := hb3.size
            have R3 := Lib.hid hr3
            have hle := ints_len l
            have hle1 : (ints l).length ≤ l.length := by omega
            have hle2 : l.length ≤ (ints l).length := by omega
            have ht1 : (ovT N l).length ≤ 2000 := by rw [ovT_len]; exact hm2
            have h64 := Lib.hid (ovT_big (N := N) (l := l) (fun d hd => by have := HM.out d hd; omega) h2)
            have hqb : qB (N : Int) (ints l) = true := qB_of fun d hd => by
              obtain ⟨x, hx, rfl⟩ := List.mem_map.1 hd
              refine ⟨by have := HM.out x hx; omega, ?_⟩
              exact_mod_cast HMD.out x hx
            have HQT : Hid (∀ w, Reads w A3 (ints l) → Calls Try.prog 36 #[.int .i64 (N : Int), .slice A3 (ints l).length c3] w (RetLB (ovT N l) true w)) := Lib.hid fun w h => by
              have := quotientsOf_any w (N : Int) (by omega) (by omega) A3 c3 (ints l) h (by omega) (In64.of_mem fun x hx => by
                obtain ⟨y, hy, rfl⟩ := List.mem_map.1 hx
                have := HM.out y hy
                omega)
              rwa [qR_yes hqb, hqb, ← ovT_qLi] at this
            clear ho3 hr3 hle hqb
            go_wp2_with fail
            refine (HQT.out _ R3.out).mono ?_; rintro e w5 ⟨v5, rfl, ho5, hb5⟩; have hz5 := hb5.size; (try simp only [World.size_alloc, World.size_setCell, World.size_drew, World.heap_drewN] at hz5)
            obtain ⟨A5, c5, rfl, hr5⟩ := ho5.form
            have R7 := Lib.hid hr5
            have O7 := Lib.hid ho5
            clear ho5 hr5 HQT
            cases he : expB (ovT N l) with
            | true =>
              have E2 := E.out
              rw [if_pos he] at E2
              have E3 := Lib.hid E2
              have HU := Lib.hid fun (w : World) (h : Reads w A5 (ovT N l)) => ifExp_yes w A5 c5 (ovT N l) h (by omega) h64.out he
              clear E E2 he
              generalize ovT N l = ts at *
              go_wp2_with fail
              refine (HU.out _ R7.out).mono ?_; rintro e w8 ⟨rfl, hb8⟩; have hz8 := hb8.size; (try simp only [World.size_alloc, World.size_setCell, World.size_drew, World.heap_drewN] at hz8)
              go_wp2
              go_ret2
              rw [E3.out]
              exact ⟨_, rfl, OwnI.mono (O7.out.below hb8) (by (first | (go_size; done) | ((try simp only [World.size_alloc, World.size_setCell, World.size_drew, World.heap_drewN]); omega))), by (repeat' (first | (with_reducible exact Below.refl _ _) | (with_reducible assumption) | (with_reducible refine Below.drew ?_) | (with_reducible refine belowDrewN ?_ _) | (with_reducible refine Below.alloc ?_ ?_ _) | (with_reducible refine Below.setCell ?_ ?_ _) | (with_reducible refine belowStep (by assumption) ?_ ?_) | (with_reducible exact Below.size (by assumption)) | go_size))⟩
            | false =>
              have E2 := E.out
              rw [if_neg (by rw [he]; decide)] at E2
              have E3 := Lib.hid E2
              have HU := Lib.hid fun (w : World) (h : Reads w A5 (ovT N l)) => ifExp_no w A5 c5 (ovT N l) h (by omega) h64.out he
              clear E E2 he
              generalize ovT N l = ts at *
              go_wp2_with fail
              refine (HU.out _ R7.out).mono ?_; rintro e w8 ⟨rfl, hb8⟩; have hz8 := hb8.size; (try simp only [World.size_alloc, World.size_setCell, World.size_drew, World.heap_drewN] at hz8)
              go_wp2
              go_ret2
              rw [E3.out]
              exact ⟨_, rfl, OwnI.empty _ _, by (repeat' (first | (with_reducible exact Below.refl _ _) | (with_reducible assumption) | (with_reducible refine Below.drew ?_) | (with_reducible refine belowDrewN ?_ _) | (with_reducible refine Below.alloc ?_ ?_ _) | (with_reducible refine Below.setCell ?_ ?_ _) | (with_reducible refine belowStep (by assumption) ?_ ?_) | (with_reducible exact Below.size (by assumption)) | go_size))⟩
      · have E : Hid (ovO (a : Int) (D : Int) (N : Int) = none) := Lib.hid (ovO_rem (by rw [e2]; omega))
        have hr1 : N % D ≤ N := Nat.mod_le N D
        generalize N % D = r at *
        have hb1 : ((r : Int) != 0) = true := by simp; omega
        have hb2 : (r : Int) ≠ 0 := by omega
        go_enter Try.func11, Try.ntmps11
        go_wp2_with fail
        refine (HG.out _).mono ?_; rintro e w1 ⟨rfl, hb1⟩; obtain ⟨hc1, hf1⟩ := bcellB hb1; have hz1 := hb1.size; (try simp only [World.size_alloc] at hc1 hf1 hz1); (try have hy1_r_0 : wr.heap.size < w1.heap.size := by omega); (try have hn1_r_0 : wr.heap.size ≠ w1.heap.size := by omega); (try have hm1_r_0 : w1.heap.size ≠ wr.heap.size := by omega); (try have hy1_r_1 : wr.heap.size + 1 < w1.heap.size := by omega); (try have hn1_r_1 : wr.heap.size + 1 ≠ w1.heap.size := by omega); (try have hm1_r_1 : w1.heap.size ≠ wr.heap.size + 1 := by omega); (try have hy1_r_2 : wr.heap.size + 1 + 1 < w1.heap.size := by omega); (try have hp1_r_1 : wr.heap.size < w1.heap.size + 1 := by omega); (try have hp1_r_2 : wr.heap.size < w1.heap.size + 1 + 1 := by omega); (try have hy1_0_0 : w.heap.size < w1.heap.size := by omega); (try have hn1_0_0 : w.heap.size ≠ w1.heap.size := by omega); (try have hm1_0_0 : w1.heap.size ≠ w.heap.size := by omega); (try have hy1_0_1 : w.heap.size + 1 < w1.heap.size := by omega); (try have hn1_0_1 : w.heap.size + 1 ≠ w1.heap.size := by omega); (try have hm1_0_1 : w1.heap.size ≠ w.heap.size + 1 := by omega); (try have hy1_0_2 : w.heap.size + 1 + 1 < w1.heap.size := by omega); (try have hp1_0_1 : w.heap.size < w1.heap.size + 1 := by omega); (try have hp1_0_2 : w.heap.size < w1.heap.size + 1 + 1 := by omega); (try have hg1_g1 : g1 < w1.heap.size := by omega); (try have hi1_g1 : g1 ≠ w1.heap.size := by omega); (try have hj1_g1 : w1.heap.size ≠ g1 := by omega); (try have hk1_g1 : g1 < w1.heap.size + 1 := by omega); (try have hg1_g2 : g2 < w1.heap.size := by omega); (try have hi1_g2 : g2 ≠ w1.heap.size := by omega); (try have hj1_g2 : w1.heap.size ≠ g2 := by omega); (try have hk1_g2 : g2 < w1.heap.size + 1 := by omega)
        go_wp2_with fail
        refine (HN.out _).mono ?_; rintro e w2 ⟨rfl, k2, rfl⟩
        go_wp2
        go_ret2
        rw [E.out]
        exact ⟨_, rfl, OwnI.empty _ _, by (repeat' (first | (with_reducible exact Below.refl _ _) | (with_reducible assumption) | (with_reducible refine Below.drew ?_) | (with_reducible refine belowDrewN ?_ _) | (with_reducible refine Below.alloc ?_ ?_ _) | (with_reducible refine Below.setCell ?_ ?_ _) | (with_reducible refine belowStep (by assumption) ?_ ?_) | (with_reducible exact Below.size (by assumption)) | go_size))⟩
end Go.Proofs.Ytbjblkfibinenad
