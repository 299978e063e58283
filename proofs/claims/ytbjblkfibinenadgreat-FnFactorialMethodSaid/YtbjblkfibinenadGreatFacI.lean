
/-
  The contract of the program's digits by factorials.
-/
import Derived.Test.YtbjblkfibinenadGreatFacD
import Derived.Deep.OwnRows
namespace Go.Proofs.YtbjblkfibinenadGreat
open Go.RowKit
theorem OwnI.atBlock {w : World} {base g k : Nat} (hb : base ≤ g) (hk : k ≤ 1000) (h : w.heap[g]? = some (.cells (madeCells #[.int .i64 0] k) 3)) : OwnI w base (.slice (some ⟨g, 0, none⟩) k k) (List.replicate k 0) := by
  unfold OwnI
  rw [List.length_replicate]
  refine ⟨by simp, .inr ⟨g, k, _, rfl, hb, h, Nat.le_refl _, by unfold maxLen; omega, by simp [madeCells], ?_⟩⟩
  rw [toList_madeCells_one, Nat.mul_one, List.map_replicate]
  exact List.take_of_length_le (by simp)
set_option maxHeartbeats 4000000 in
theorem factorialDigits_any (n d : Int) (w : World) (rn : -9223372036854775808 ≤ n ∧ n ≤ 9223372036854775807) (rd : -9223372036854775808 ≤ d ∧ d ≤ 9223372036854775807) : Calls Tryz.prog 17 #[.agg #[.int .i64 n, .int .i64 d]] w (RetLB ((fdO n d).getD []) (fdO n d).isSome w) := by
  cases h : proB n d with
  | false =>
    have E := Lib.hid (fdO_pro h)
    go_enter Tryz.func17, Tryz.ntmps17
    go_wp2_with fail
    refine (isProper_any _ _ _ rn rd).mono ?_; rintro e w1 ⟨rfl, hb1⟩; obtain ⟨hc1, hf1⟩ := bcellB hb1; have hz1 := hb1.size; (try simp only [World.size_alloc] at hc1 hf1 hz1); (try have hy1_r_0 : wr.heap.size < w1.heap.size := by omega); (try have hn1_r_0 : wr.heap.size ≠ w1.heap.size := by omega); (try have hm1_r_0 : w1.heap.size ≠ wr.heap.size := by omega); (try have hy1_r_1 : wr.heap.size + 1 < w1.heap.size := by omega); (try have hn1_r_1 : wr.heap.size + 1 ≠ w1.heap.size := by omega); (try have hm1_r_1 : w1.heap.size ≠ wr.heap.size + 1 := by omega); (try have hy1_r_2 : wr.heap.size + 1 + 1 < w1.heap.size := by omega); (try have hp1_r_1 : wr.heap.size < w1.heap.size + 1 := by omega); (try have hp1_r_2 : wr.heap.size < w1.heap.size + 1 + 1 := by omega); (try have hy1_0_0 : w.heap.size < w1.heap.size := by omega); (try have hn1_0_0 : w.heap.size ≠ w1.heap.size := by omega); (try have hm1_0_0 : w1.heap.size ≠ w.heap.size := by omega); (try have hy1_0_1 : w.heap.size + 1 < w1.heap.size := by omega); (try have hn1_0_1 : w.heap.size + 1 ≠ w1.heap.size := by omega); (try have hm1_0_1 : w1.heap.size ≠ w.heap.size + 1 := by omega); (try have hy1_0_2 : w.heap.size + 1 + 1 < w1.heap.size := by omega); (try have hp1_0_1 : w.heap.size < w1.heap.size + 1 := by omega); (try have hp1_0_2 : w.heap.size < w1.heap.size + 1 + 1 := by omega); (try have hg1_g1 : g1 < w1.heap.size := by omega); (try have hi1_g1 : g1 ≠ w1.heap.size := by omega); (try have hj1_g1 : w1.heap.size ≠ g1 := by omega); (try have hk1_g1 : g1 < w1.heap.size + 1 := by omega); (try have hg1_g2 : g2 < w1.heap.size := by omega); (try have hi1_g2 : g2 ≠ w1.heap.size := by omega); (try have hj1_g2 : w1.heap.size ≠ g2 := by omega); (try have hk1_g2 : g2 < w1.heap.size + 1 := by omega)
    rw [h]
    go_wp2
    go_ret2
    rw [E.out]
    exact ⟨_, rfl, OwnI.empty _ _, by (repeat' (first | (with_reducible exact Below.refl _ _) | (with_reducible assumption) | (with_reducible refine Below.drew ?_) | (with_reducible refine belowDrewN ?_ _) | (with_reducible refine Below.alloc ?_ ?_ _) | (with_reducible refine Below.setCell ?_ ?_ _) | (with_reducible refine belowStep (by assumption) ?_ ?_) | (with_reducible exact Below.size (by assumption)) | go_size))⟩
  | true =>
    obtain ⟨n1, n2, d1, d2, hnd, hg, hgc, hi⟩ := proB_bounds h
    obtain ⟨f1, f2⟩ := lfR_yes (show 1 ≤ d by omega)
    by_cases h0 : leastF d = 0
    · have E := Lib.hid (fdO_zero (n := n) h0)
      have F : Hid (lfR d = 0 ∧ lfB d = false) := Lib.hid ⟨by rw [f1, h0], by rw [f2, h0]; rfl⟩
      go_enter Tryz.func17, Tryz.ntmps17
      go_wp2_with fail
      refine (isProper_any _ _ _ rn rd).mono ?_; rintro e w1 ⟨rfl, hb1⟩; obtain ⟨hc1, hf1⟩ := bcellB hb1; have hz1 := hb1.size; (try simp only [World.size_alloc] at hc1 hf1 hz1); (try have hy1_r_0 : wr.heap.size < w1.heap.size := by omega); (try have hn1_r_0 : wr.heap.size ≠ w1.heap.size := by omega); (try have hm1_r_0 : w1.heap.size ≠ wr.heap.size := by omega); (try have hy1_r_1 : wr.heap.size + 1 < w1.heap.size := by omega); (try have hn1_r_1 : wr.heap.size + 1 ≠ w1.heap.size := by omega); (try have hm1_r_1 : w1.heap.size ≠ wr.heap.size + 1 := by omega); (try have hy1_r_2 : wr.heap.size + 1 + 1 < w1.heap.size := by omega); (try have hp1_r_1 : wr.heap.size < w1.heap.size + 1 := by omega); (try have hp1_r_2 : wr.heap.size < w1.heap.size + 1 + 1 := by omega); (try have hy1_0_0 : w.heap.size < w1.heap.size := by omega); (try have hn1_0_0 : w.heap.size ≠ w1.heap.size := by omega); (try have hm1_0_0 : w1.heap.size ≠ w.heap.size := by omega); (try have hy1_0_1 : w.heap.size + 1 < w1.heap.size := by omega); (try have hn1_0_1 : w.heap.size + 1 ≠ w1.heap.size := by omega); (try have hm1_0_1 : w1.heap.size ≠ w.heap.size + 1 := by omega); (try have hy1_0_2 : w.heap.size + 1 + 1 < w1.heap.size := by omega); (try have hp1_0_1 : w.heap.size < w1.heap.size + 1 := by omega); (try have hp1_0_2 : w.heap.size < w1.heap.size + 1 + 1 := by omega); (try have hg1_g1 : g1 < w1.heap.size := by omega); (try have hi1_g1 : g1 ≠ w1.heap.size := by omega); (try have hj1_g1 : w1.heap.size ≠ g1 := by omega); (try have hk1_g1 : g1 < w1.heap.size + 1 := by omega); (try have hg1_g2 : g2 < w1.heap.size := by omega); (try have hi1_g2 : g2 ≠ w1.heap.size := by omega); (try have hj1_g2 : w1.heap.size ≠ g2 := by omega); (try have hk1_g2 : g2 < w1.heap.size + 1 := by omega)
      rw [h]
      go_wp2_with fail
      refine (leastFactorial_any d _ rd).mono ?_; rintro e w2 ⟨rfl, k2, rfl⟩
      rw [F.out.1, F.out.2]
      go_wp2
      go_ret2
      rw [E.out]
      exact ⟨_, rfl, OwnI.empty _ _, by (repeat' (first | (with_reducible exact Below.refl _ _) | (with_reducible assumption) | (with_reducible refine Below.drew ?_) | (with_reducible refine belowDrewN ?_ _) | (with_reducible refine Below.alloc ?_ ?_ _) | (with_reducible refine Below.setCell ?_ ?_ _) | (with_reducible refine belowStep (by assumption) ?_ ?_) | (with_reducible exact Below.size (by assumption)) | go_size))⟩
    · have E := Lib.hid (fdO_yes h h0)
      obtain ⟨m, m2, m12, hm, q1, q2, l0, l1, hL, hdq⟩ := fd_start h h0
      have F : Hid (lfR d = m ∧ lfB d = true) := Lib.hid ⟨by rw [f1, hm], by rw [f2, decide_eq_true h0]⟩
      have hf := fac_in m12
      have HF := Lib.hid fun (w : World) => factorialOf_any m w m12
      have HLL := Lib.hid hL
      have hne : d ≠ 0 := by omega
      have E3 : Hid (IntKind.i64.wrap (n * IntKind.i64.wrap (fac m / d)) = n * (fac m / d)) := Lib.hid (by rw [IntWalk.i64_in (fac m / d) (by omega)]; exact IntWalk.i64_in _ (by omega))
      have hmk : ∀ w : World, (Instr.makeSlice 30 (.int .i64 (IntKind.i64.wrap ((m : Int) - 1))) (.int .i64 (IntKind.i64.wrap ((m : Int) - 1)))).run Tryz.prog w = .ok (.slice (some ⟨w.heap.size, 0, none⟩) (m - 1) (m - 1)) (w.alloc (.cells (madeCells #[.int .i64 0] (m - 1)) 3)) := fun w => by
        rw [IntWalk.i64_in ((m : Int) - 1) (by omega), show (m : Int) - 1 = ((m - 1 : Nat) : Int) from by omega]
        exact run_make_row' 30 3 (.int .i64 0) 8 Tryz.underlying30 intInfo rfl .i64 .i64 (m - 1) (by omega) (by omega) w
      have htd : (fac m).tdiv d = fac m / d := Int.tdiv_eq_ediv_of_nonneg (by omega)
      have T0 := Lib.hid (TwoAt.new w n d 25)
      clear hg hgc hi h0 hm hL hdq f1 f2
      go_enter Tryz.func17, Tryz.ntmps17
      go_wp2_with fail
      refine (isProper_any _ _ _ rn rd).mono ?_; rintro e w1 ⟨rfl, hb1⟩; obtain ⟨hc1, hf1⟩ := bcellB hb1; have hz1 := hb1.size; (try simp only [World.size_alloc] at hc1 hf1 hz1); (try have hy1_r_0 : wr.heap.size < w1.heap.size := by omega); (try have hn1_r_0 : wr.heap.size ≠ w1.heap.size := by omega); (try have hm1_r_0 : w1.heap.size ≠ wr.heap.size := by omega); (try have hy1_r_1 : wr.heap.size + 1 < w1.heap.size := by omega); (try have hn1_r_1 : wr.heap.size + 1 ≠ w1.heap.size := by omega); (try have hm1_r_1 : w1.heap.size ≠ wr.heap.size + 1 := by omega); (try have hy1_r_2 : wr.heap.size + 1 + 1 < w1.heap.size := by omega); (try have hp1_r_1 : wr.heap.size < w1.heap.size + 1 := by omega); (try have hp1_r_2 : wr.heap.size < w1.heap.size + 1 + 1 := by omega); (try have hy1_0_0 : w.heap.size < w1.heap.size := by omega); (try have hn1_0_0 : w.heap.size ≠ w1.heap.size := by omega); (try have hm1_0_0 : w1.heap.size ≠ w.heap.size := by omega); (try have hy1_0_1 : w.heap.size + 1 < w1.heap.size := by omega); (try have hn1_0_1 : w.heap.size + 1 ≠ w1.heap.size := by omega); (try have hm1_0_1 : w1.heap.size ≠ w.heap.size + 1 := by omega); (try have hy1_0_2 : w.heap.size + 1 + 1 < w1.heap.size := by omega); (try have hp1_0_1 : w.heap.size < w1.heap.size + 1 := by omega); (try have hp1_0_2 : w.heap.size < w1.heap.size + 1 + 1 := by omega); (try have hg1_g1 : g1 < w1.heap.size := by omega); (try have hi1_g1 : g1 ≠ w1.heap.size := by omega); (try have hj1_g1 : w1.heap.size ≠ g1 := by omega); (try have hk1_g1 : g1 < w1.heap.size + 1 := by omega); (try have hg1_g2 : g2 < w1.heap.size := by omega); (try have hi1_g2 : g2 ≠ w1.heap.size := by omega); (try have hj1_g2 : w1.heap.size ≠ g2 := by omega); (try have hk1_g2 : g2 < w1.heap.size + 1 := by omega)
      rw [h]
      go_wp2_with fail
      refine (leastFactorial_any d _ rd).mono ?_; rintro e w2 ⟨rfl, k2, rfl⟩
      rw [F.out.1, F.out.2]
      obtain ⟨t1, t2, t3, t4, t5⟩ := T0.out.below hb1
      go_upto_region 6 with fail
      go_cut [6, 7] (fun s6 s7 wx => ∃ g : Nat, s6 = .slice (some ⟨g, 0, none⟩) (m - 1) (m - 1) ∧ s7 = .int .i64 (n * (fac m / d)) ∧ OwnI wx w.heap.size s6 (List.replicate (m - 1) 0) ∧ Below w.heap.size w wx)
      case first =>
        go_region_held3 (fun w' => w'.cell? ⟨w.heap.size, 0, none⟩ = some (.int .i64 n) ∧ w'.cell? ⟨w.heap.size, 1, none⟩ = some (.int .i64 d)) (first | exact ⟨t1, t2⟩ | go_keep) (first | (go_at_call 44; refine (HF.out _).mono ?_; rintro e w2 ⟨rfl, k2, rfl⟩))
        all_goals go_wp2_with fail
        all_goals go_meet
        all_goals refine ⟨_, rfl, by first | rfl | (rw [E3.out]; done) | (simp [*]; exact E3.out), ?_, by (repeat' (first | (with_reducible exact Below.refl _ _) | (with_reducible assumption) | (with_reducible refine Below.drew ?_) | (with_reducible refine belowDrewN ?_ _) | (with_reducible refine Below.alloc ?_ ?_ _) | (with_reducible refine Below.setCell ?_ ?_ _) | (with_reducible refine belowStep (by assumption) ?_ ?_) | (with_reducible exact Below.size (by assumption)) | go_size))⟩
        all_goals exact OwnI.atBlock (by (first | (go_size; done) | ((try simp only [World.size_alloc, World.size_setCell, World.size_drew, World.heap_drewN]); omega))) (by omega) (heap_alloc_new w1 _)
      case rest =>
        obtain ⟨w3, rfl⟩ : ∃ w3 : World, w3 = wc := ⟨_, rfl⟩
        obtain ⟨g, rfl, rfl, ho3, hb3⟩ := hcut
        have Ho3 := Lib.hid ho3
        have hz3 := hb3.size
        clear ho3 hmk
        go_wp2
        go_loopw [7, 8] (fun v7 v8 wr => ∃ (i : Nat) (left : Int) (ys : List Int), 1 ≤ i ∧ i ≤ m ∧ v7 = .int .i64 left ∧ v8 = .int .i64 (i : Int) ∧ 0 ≤ left ∧ left ≤ 479001600 ∧ digL m (n * (fac m / d)) = digL i left ++ ys ∧ OwnI wr w.heap.size (.slice (some ⟨g, 0, none⟩) (m - 1) (m - 1)) (List.replicate (i - 1) 0 ++ ys) ∧ Below w.heap.size w wr) (fun _ v8 _ => (intOf v8).toNat)
        case atStart => exact ⟨m, _, [], by omega, Nat.le_refl _, rfl, rfl, by omega, by omega, by simp, by simpa using Ho3.out, by (repeat' (first | (with_reducible exact Below.refl _ _) | (with_reducible assumption) | (with_reducible refine Below.drew ?_) | (with_reducible refine belowDrewN ?_ _) | (with_reducible refine Below.alloc ?_ ?_ _) | (with_reducible refine Below.setCell ?_ ?_ _) | (with_reducible refine belowStep (by assumption) ?_ ?_) | (with_reducible exact Below.size (by assumption)) | go_size))⟩
        case round =>
          obtain ⟨i, left, ys, i1, i2, rfl, rfl, k0, k1, hd, ho, hbr⟩ := hrel
          have hzr := hbr.size
          have hl2 := digL_len m (n * (fac m / d))
          rw [hd, List.length_append, digL_len] at hl2
          have Hd := Lib.hid hd
          clear hd
          by_cases h2 : 2 ≤ i
          · obtain ⟨k, rfl⟩ : ∃ k, i = k + 2 := ⟨i - 2, by omega⟩
            obtain ⟨e1, e2, e3, e4, e5, e6⟩ := dig_in h2 k0 k1
            have hs := digL_step h2 left
            have Hs : Hid (digL m (n * (fac m / d)) = digL (k + 1) (left / ((k + 2 : Nat) : Int)) ++ (left % ((k + 2 : Nat) : Int) :: ys)) := Lib.hid (by rw [Hd.out, hs, List.append_assoc]; rfl)
            have hlen : m - 1 = (List.replicate (k + 1) (0 : Int) ++ ys).length := by rw [List.length_append, List.length_replicate]; omega
            obtain ⟨hC, hF⟩ := ho.cell_ hlen (zeros_at k ys)
            have hgl := (ho.block g rfl).2
            have hgb := (ho.block g rfl).1
            have O2 := ho.set_ hlen k (left % ((k + 2 : Nat) : Int))
            have hz0 := zeros_set k ys (left % ((k + 2 : Nat) : Int))
            rw [show k + 2 - 1 = k + 1 from by omega] at O2
            rw [hz0] at O2
            have HO := Lib.hid O2
            have hne2 : ((k + 2 : Nat) : Int) ≠ 0 := by omega
            have hki : ((k + 2 : Nat) : Int) - 2 = (k : Int) := by omega
            have hkm : (k : Int) < ((m - 1 : Nat) : Int) := by omega
            clear hs hz0 O2 ho hlen
            go_wp2
            go_roundw
            case rel => exact ⟨k + 1, _, _, by omega, by omega, rfl, by go_num, e5, e6, Hs.out, HO.out, by (repeat' (first | (with_reducible exact Below.refl _ _) | (with_reducible assumption) | (with_reducible refine Below.drew ?_) | (with_reducible refine belowDrewN ?_ _) | (with_reducible refine Below.alloc ?_ ?_ _) | (with_reducible refine Below.setCell ?_ ?_ _) | (with_reducible refine belowStep (by assumption) ?_ ?_) | (with_reducible exact Below.size (by assumption)) | go_size))⟩
            case measure => simp [intOf]; omega
          · obtain rfl : i = 1 := by omega
            have E4 : Hid (fdL n d = ys) := Lib.hid (by rw [HLL.out, Hd.out]; rfl)
            have hyl : ys.length = m - 1 := by omega
            have Ho : Hid (OwnI wr w.heap.size (.slice (some ⟨g, 0, none⟩) (m - 1) (m - 1)) ys) := Lib.hid (by simpa using ho)
            clear ho
            go_wp2
            go_ret2
            rw [E.out, Option.getD_some, E4.out]
            exact ⟨_, rfl, Ho.out, by (repeat' (first | (with_reducible exact Below.refl _ _) | (with_reducible assumption) | (with_reducible refine Below.drew ?_) | (with_reducible refine belowDrewN ?_ _) | (with_reducible refine Below.alloc ?_ ?_ _) | (with_reducible refine Below.setCell ?_ ?_ _) | (with_reducible refine belowStep (by assumption) ?_ ?_) | (with_reducible exact Below.size (by assumption)) | go_size))⟩
end Go.Proofs.YtbjblkfibinenadGreat
