
/-
  The contract of the model's fraction with given digits by factorials.
-/
import Derived.Test.YtbjblkfibinenadGreatFromFac
namespace Go.Proofs.YtbjblkfibinenadGreat
open Go.RowKit
set_option maxHeartbeats 8000000 in
theorem spec_fromFactorial_any (w : World) (Axs : Option Addr) (cxs : Nat) (xs : List Int) (hxs : Reads w Axs xs) (lxs : xs.length ≤ 1048576) : Calls Tryz.prog 23 #[.slice Axs xs.length cxs] w (Ret (.tuple #[.agg #[.int .i64 (ffRN xs), .int .i64 (ffRD xs)], .bool (ffB xs)]) w) := by
  have Hxs := Lib.hid hxs
  clear hxs
  by_cases hl : xs.length ≤ 11
  · have hli : ((xs.length : Nat) : Int) ≤ 11 := by omega
    have T0 : Hid (ffA (xs.take 0) = 0 ∧ ffC (xs.take 0) = 1) := Lib.hid (by
      have hg : gcdI 0 1 = 1 := rfl
      have e1 : ffN (xs.take 0) = 0 := rfl
      have e2 : ffD (xs.take 0) = 1 := by simp [ffD, fac]
      unfold ffA ffC
      rw [e1, e2, hg]
      exact ⟨rfl, rfl⟩)
    go_enter Tryz.func23, Tryz.ntmps23
    go_wp2
    go_loopw [14] (fun v14 wr => ∃ k : Nat, k ≤ xs.length ∧ v14 = .int .i64 (k : Int) ∧ (∀ (i : Nat) (x : Int), i < k → xs[i]? = some x → 0 ≤ x ∧ x ≤ (i : Int) + 1) ∧ TwoAt wr w.heap.size 0 0 ∧ TwoAt wr (w.heap.size + 1) (ffA (xs.take k)) (ffC (xs.take k)) ∧ Below w.heap.size w wr) (fun v14 _ => xs.length - (intOf v14).toNat)
    case atStart =>
      refine ⟨0, Nat.zero_le _, rfl, fun i x h => by omega, by (refine ⟨?_, ?_, ?_, ?_, ?_⟩ <;> first | (simp only [World.size_alloc]; omega) | (first | (simp [*, World.cell?_alloc_some]; done) | (simp [go_sem, *]; done))), ?_, by (repeat' (first | (with_reducible exact Below.refl _ _) | (with_reducible assumption) | (with_reducible refine Below.drew ?_) | (with_reducible refine belowDrewN ?_ _) | (with_reducible refine Below.alloc ?_ ?_ _) | (with_reducible refine Below.setCell ?_ ?_ _) | (with_reducible refine belowStep (by assumption) ?_ ?_) | (with_reducible exact Below.size (by assumption)) | go_size))⟩
      rw [T0.out.1, T0.out.2]
      (refine ⟨?_, ?_, ?_, ?_, ?_⟩ <;> first | (simp only [World.size_alloc]; omega) | (first | (simp [*]; done) | (simp [go_sem, *]; done)))
    case round =>
      obtain ⟨k, hk, rfl, hin, hq, hs, hbr⟩ := hrel
      obtain ⟨p0, p1, p2, p3⟩ := ff_pre hk (by omega) hin
      have hlk : (xs.take k).length ≤ 11 := by rw [List.length_take]; omega
      obtain ⟨g1, _, _, _⟩ := ff_good hlk p0 p1
      obtain ⟨a1, a2, b1, b2⟩ := good_bounds g1
      have Hin := Lib.hid hin
      have Hq := Lib.hid hq
      have Hs := Lib.hid hs
      have hzr := hbr.size
      obtain ⟨q1, q2, q3, q4, q5⟩ := hq
      obtain ⟨s1, s2, s3, s4, s5⟩ := hs
      clear hin
      by_cases hlt : k < xs.length
      · obtain ⟨b, o, x, rfl, hb, hx, hcell⟩ := (Hxs.out.below hbr).at_ hlt
        obtain ⟨t0, t1, t2, t3⟩ := ff_next hlt hx
        have Hx := Lib.hid hx
        by_cases hxr : 0 ≤ x ∧ x ≤ (k : Int) + 1
        · have HMo := Lib.hid (ff_more Hin.out Hx.out hxr)
          obtain ⟨x0, x1⟩ := hxr
          have hf := fac_in (n := k + 2) (by omega)
          obtain ⟨gg, gg1, u1, u2, u3, u4, u5⟩ := low_parts (n := x) (show 1 ≤ fac (k + 2) by omega)
          have v0 : 0 ≤ x / gcdI x (fac (k + 2)) := Int.ediv_nonneg x0 (gcdI_nonneg _ _)
          have v1 : x / gcdI x (fac (k + 2)) ≤ x := Int.ediv_le_self _ x0
          have HK : Hid (IntKind.i64.wrap ((k : Int) + 2) = ((k + 2 : Nat) : Int)) := Lib.hid (by rw [IntWalk.i64_in _ (by omega)]; omega)
          have HF := Lib.hid fun (w : World) (y : Int) (hy : y = ((k + 2 : Nat) : Int)) => (by subst hy; exact meFactorial_any (k + 2) w (by omega) : Calls Tryz.prog 47 #[.int .i64 y] w (RetQ (.int .i64 (fac (k + 2))) w))
          have HM := Lib.hid fun (w : World) => unMake_any x (fac (k + 2)) w x0 (by omega) (by omega) (by omega)
          have HA : Hid (∀ w : World, Calls Tryz.prog 50 #[.agg #[.int .i64 (ffA (xs.take k)), .int .i64 (ffC (xs.take k))], .agg #[.int .i64 (x / gcdI x (fac (k + 2))), .int .i64 (fac (k + 2) / gcdI x (fac (k + 2)))]] w (Ret (.agg #[.int .i64 (ffA (xs.take (k + 1))), .int .i64 (ffC (xs.take (k + 1)))]) w)) := Lib.hid fun w => by
            have h := unAdd_any (ffA (xs.take k)) (ffC (xs.take k)) (x / gcdI x (fac (k + 2))) (fac (k + 2) / gcdI x (fac (k + 2))) w a1 a2 b1 b2 v0 (by omega) u3 (by omega)
            have e := ff_step (ds := xs.take k) (x := x)
            rw [← t0, t3] at e
            rw [e.1, e.2] at h
            exact h
          clear t0 t1 t2 t3 hx u1 u2 u5 gg1 g1
          generalize x / gcdI x (fac (k + 2)) = m at *
          generalize fac (k + 2) / gcdI x (fac (k + 2)) = e' at *
          generalize fac (k + 2) = F at *
          generalize hA' : ffA (xs.take (k + 1)) = A' at *
          generalize hC' : ffC (xs.take (k + 1)) = C' at *
          have HA' := Lib.hid hA'
          have HC' := Lib.hid hC'
          clear hA' hC'
          generalize ffA (xs.take k) = A at *
          generalize ffC (xs.take k) = C at *
          go_wp2_with (go_at_call 49; first | (refine (l1In_yes _ _ _ _ (by omega) (by omega)).mono ?_; rintro e w1 ⟨rfl, k1, rfl⟩) | (refine (l1In_no _ _ _ _ (by omega)).mono ?_; rintro e w1 ⟨rfl, k1, rfl⟩))
          go_upto_region 9 with fail
          go_region_with (first | (go_at_call 47; refine (HF.out _ _ HK.out).mono ?_; rintro e w2 ⟨rfl, k2, rfl⟩) | (go_at_call 32; refine (HM.out _).mono ?_; rintro e w3 ⟨rfl, hb3⟩; obtain ⟨hc3, hf3⟩ := bcellB hb3; have hz3 := hb3.size; (try simp only [World.heap_drewN] at hc3 hf3 hz3); (try have hy3_00 : w.heap.size < w3.heap.size := by omega); (try have hn3_00 : w.heap.size ≠ w3.heap.size := by omega); (try have hm3_00 : w3.heap.size ≠ w.heap.size := by omega); (try have hp3_00 : w.heap.size < w3.heap.size + 1 := by omega); (try have hy3_01 : w.heap.size + 1 < w3.heap.size := by omega); (try have hn3_01 : w.heap.size + 1 ≠ w3.heap.size := by omega); (try have hm3_01 : w3.heap.size ≠ w.heap.size + 1 := by omega); (try have hp3_01 : w.heap.size + 1 < w3.heap.size + 1 := by omega); (try have hy3_10 : wr.heap.size < w3.heap.size := by omega); (try have hn3_10 : wr.heap.size ≠ w3.heap.size := by omega); (try have hm3_10 : w3.heap.size ≠ wr.heap.size := by omega); (try have hp3_10 : wr.heap.size < w3.heap.size + 1 := by omega); (try have hy3_11 : wr.heap.size + 1 < w3.heap.size := by omega); (try have hn3_11 : wr.heap.size + 1 ≠ w3.heap.size := by omega); (try have hm3_11 : w3.heap.size ≠ wr.heap.size + 1 := by omega); (try have hp3_11 : wr.heap.size + 1 < w3.heap.size + 1 := by omega)) | (go_at_call 50; refine (HA.out _).mono ?_; rintro e w4 ⟨rfl, hb4⟩; obtain ⟨hc4, hf4⟩ := bcellB hb4; have hz4 := hb4.size; (try simp only [World.size_alloc, World.size_setCell, World.size_drew, World.heap_drewN] at hc4 hf4 hz4); (try have hy4_00 : w.heap.size < w4.heap.size := by omega); (try have hn4_00 : w.heap.size ≠ w4.heap.size := by omega); (try have hm4_00 : w4.heap.size ≠ w.heap.size := by omega); (try have hp4_00 : w.heap.size < w4.heap.size + 1 := by omega); (try have hy4_01 : w.heap.size + 1 < w4.heap.size := by omega); (try have hn4_01 : w.heap.size + 1 ≠ w4.heap.size := by omega); (try have hm4_01 : w4.heap.size ≠ w.heap.size + 1 := by omega); (try have hp4_01 : w.heap.size + 1 < w4.heap.size + 1 := by omega); (try have hy4_10 : wr.heap.size < w4.heap.size := by omega); (try have hn4_10 : wr.heap.size ≠ w4.heap.size := by omega); (try have hm4_10 : w4.heap.size ≠ wr.heap.size := by omega); (try have hp4_10 : wr.heap.size < w4.heap.size + 1 := by omega); (try have hy4_11 : wr.heap.size + 1 < w4.heap.size := by omega); (try have hn4_11 : wr.heap.size + 1 ≠ w4.heap.size := by omega); (try have hm4_11 : w4.heap.size ≠ wr.heap.size + 1 := by omega); (try have hp4_11 : wr.heap.size + 1 < w4.heap.size + 1 := by omega); (try have hy4_20 : w3.heap.size < w4.heap.size := by omega); (try have hn4_20 : w3.heap.size ≠ w4.heap.size := by omega); (try have hm4_20 : w4.heap.size ≠ w3.heap.size := by omega); (try have hp4_20 : w3.heap.size < w4.heap.size + 1 := by omega); (try have hy4_21 : w3.heap.size + 1 < w4.heap.size := by omega); (try have hn4_21 : w3.heap.size + 1 ≠ w4.heap.size := by omega); (try have hm4_21 : w4.heap.size ≠ w3.heap.size + 1 := by omega); (try have hp4_21 : w3.heap.size + 1 < w4.heap.size + 1 := by omega)))
          all_goals
            go_wp2
            go_roundw
            case rel => exact ⟨k + 1, by omega, by go_num, HMo.out, by (refine ⟨?_, ?_, ?_, ?_, ?_⟩ <;> first | (first | (simp [*, World.cell?_setCell_far]; done) | (simp [go_sem, *]; done)) | (first | (go_size; done) | ((try simp only [World.size_alloc, World.size_setCell, World.size_drew, World.heap_drewN]); omega))), by (rw [HA'.out, HC'.out]; (refine ⟨?_, ?_, ?_, ?_, ?_⟩ <;> first | (first | (simp [*]; done) | (simp [go_sem, *]; done)) | (first | (go_size; done) | ((try simp only [World.size_alloc, World.size_setCell, World.size_drew, World.heap_drewN]); omega)))), by (repeat' (first | (with_reducible exact Below.refl _ _) | (with_reducible assumption) | (with_reducible refine Below.drew ?_) | (with_reducible refine belowDrewN ?_ _) | (with_reducible refine Below.alloc ?_ ?_ _) | (with_reducible refine Below.setCell ?_ ?_ _) | (with_reducible refine belowStep (by assumption) ?_ ?_) | (with_reducible exact Below.size (by assumption)) | go_size))⟩
            case measure => simp [intOf]; omega
        · have E := Lib.hid (ffR_no (xs := xs) (ffB_not fun h => hxr (h.2 k x Hx.out)))
          go_wp2_with (go_at_call 49; first | (refine (l1In_yes _ _ _ _ (by omega) (by omega)).mono ?_; rintro e w1 ⟨rfl, k1, rfl⟩) | (refine (l1In_no _ _ _ _ (by omega)).mono ?_; rintro e w1 ⟨rfl, k1, rfl⟩))
          refine bodyPost_ret (by simp [results, Tryz.results23, go_sem, *]; try rfl) rfl ?_
          rw [E.out.1, E.out.2.1, E.out.2.2]
          exact ⟨rfl, by (repeat' (first | (with_reducible exact Below.refl _ _) | (with_reducible assumption) | (with_reducible refine Below.drew ?_) | (with_reducible refine belowDrewN ?_ _) | (with_reducible refine Below.alloc ?_ ?_ _) | (with_reducible refine Below.setCell ?_ ?_ _) | (with_reducible refine belowStep (by assumption) ?_ ?_) | (with_reducible exact Below.size (by assumption)) | go_size))⟩
      · obtain rfl : k = xs.length := by omega
        have hb : ffB xs = true := (ffB_iff xs).2 ⟨hl, fun i x hx => Hin.out i x (List.getElem?_eq_some_iff.1 hx).1 hx⟩
        have E := Lib.hid (ffR_yes hb)
        rw [List.take_length] at s1 s2 g1
        have HI : Hid (∀ w : World, Calls Tryz.prog 51 #[.agg #[.int .i64 (ffA xs), .int .i64 (ffC xs)]] w (Ret (.tuple #[.agg #[.int .i64 (ffA xs), .int .i64 (ffC xs)], .bool true]) w)) := Lib.hid fun w => by
          have := unIf_any (ffA xs) (ffC xs) w
          rw [g1] at this
          exact this
        clear hb g1
        go_wp2_with (go_at_call 51; refine (HI.out _).mono ?_; rintro e w2 ⟨rfl, hb2⟩; obtain ⟨hc2, hf2⟩ := bcellB hb2; have hz2 := hb2.size; (try simp only [World.size_alloc, World.size_setCell, World.size_drew, World.heap_drewN] at hc2 hf2 hz2); (try have hy2_r_0 : wr.heap.size < w2.heap.size := by omega); (try have hn2_r_0 : wr.heap.size ≠ w2.heap.size := by omega); (try have hm2_r_0 : w2.heap.size ≠ wr.heap.size := by omega); (try have hy2_r_1 : wr.heap.size + 1 < w2.heap.size := by omega); (try have hn2_r_1 : wr.heap.size + 1 ≠ w2.heap.size := by omega); (try have hm2_r_1 : w2.heap.size ≠ wr.heap.size + 1 := by omega); (try have hy2_r_2 : wr.heap.size + 1 + 1 < w2.heap.size := by omega); (try have hp2_r_1 : wr.heap.size < w2.heap.size + 1 := by omega); (try have hp2_r_2 : wr.heap.size < w2.heap.size + 1 + 1 := by omega); (try have hy2_0_0 : w.heap.size < w2.heap.size := by omega); (try have hn2_0_0 : w.heap.size ≠ w2.heap.size := by omega); (try have hm2_0_0 : w2.heap.size ≠ w.heap.size := by omega); (try have hy2_0_1 : w.heap.size + 1 < w2.heap.size := by omega); (try have hn2_0_1 : w.heap.size + 1 ≠ w2.heap.size := by omega); (try have hm2_0_1 : w2.heap.size ≠ w.heap.size + 1 := by omega); (try have hy2_0_2 : w.heap.size + 1 + 1 < w2.heap.size := by omega); (try have hp2_0_1 : w.heap.size < w2.heap.size + 1 := by omega); (try have hp2_0_2 : w.heap.size < w2.heap.size + 1 + 1 := by omega); (try have hy2_1_0 : w1.heap.size < w2.heap.size := by omega); (try have hn2_1_0 : w1.heap.size ≠ w2.heap.size := by omega); (try have hm2_1_0 : w2.heap.size ≠ w1.heap.size := by omega); (try have hy2_1_1 : w1.heap.size + 1 < w2.heap.size := by omega); (try have hn2_1_1 : w1.heap.size + 1 ≠ w2.heap.size := by omega); (try have hm2_1_1 : w2.heap.size ≠ w1.heap.size + 1 := by omega); (try have hy2_1_2 : w1.heap.size + 1 + 1 < w2.heap.size := by omega); (try have hp2_1_1 : w1.heap.size < w2.heap.size + 1 := by omega); (try have hp2_1_2 : w1.heap.size < w2.heap.size + 1 + 1 := by omega); (try have hg2_g1 : g1 < w2.heap.size := by omega); (try have hi2_g1 : g1 ≠ w2.heap.size := by omega); (try have hj2_g1 : w2.heap.size ≠ g1 := by omega); (try have hk2_g1 : g1 < w2.heap.size + 1 := by omega); (try have hg2_g2 : g2 < w2.heap.size := by omega); (try have hi2_g2 : g2 ≠ w2.heap.size := by omega); (try have hj2_g2 : w2.heap.size ≠ g2 := by omega); (try have hk2_g2 : g2 < w2.heap.size + 1 := by omega))
        refine bodyPost_ret (by simp [results, Tryz.results23, go_sem, *]; try rfl) rfl ?_
        rw [E.out.1, E.out.2.1, E.out.2.2]
        exact ⟨rfl, by (repeat' (first | (with_reducible exact Below.refl _ _) | (with_reducible assumption) | (with_reducible refine Below.drew ?_) | (with_reducible refine belowDrewN ?_ _) | (with_reducible refine Below.alloc ?_ ?_ _) | (with_reducible refine Below.setCell ?_ ?_ _) | (with_reducible refine belowStep (by assumption) ?_ ?_) | (with_reducible exact Below.size (by assumption)) | go_size))⟩
  · have E := Lib.hid (ffR_no (xs := xs) (ffB_not fun h => hl h.1))
    have hli : ¬ ((xs.length : Nat) : Int) ≤ 11 := by omega
    go_enter Tryz.func23, Tryz.ntmps23
    go_wp2
    refine bodyPost_ret (by simp [results, Tryz.results23, go_sem, *]; try rfl) rfl ?_
    rw [E.out.1, E.out.2.1, E.out.2.2]
    exact ⟨rfl, by (repeat' (first | (with_reducible exact Below.refl _ _) | (with_reducible assumption) | (with_reducible refine Below.drew ?_) | (with_reducible refine belowDrewN ?_ _) | (with_reducible refine Below.alloc ?_ ?_ _) | (with_reducible refine Below.setCell ?_ ?_ _) | (with_reducible refine belowStep (by assumption) ?_ ?_) | (with_reducible exact Below.size (by assumption)) | go_size))⟩
end Go.Proofs.YtbjblkfibinenadGreat
